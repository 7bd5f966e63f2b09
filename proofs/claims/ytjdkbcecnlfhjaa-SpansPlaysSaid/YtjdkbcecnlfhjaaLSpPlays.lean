/-
  The walk of SpansPlays.
-/
import Derived.Test.YtjdkbcecnlfhjaaLSpOrder
import Derived.Test.YtjdkbcecnlfhjaaSpRef5
import Derived.Test.YtjdkbcecnlfhjaaStructs
namespace Go.Proofs.Ytjdkbcecnlfhjaa
open Go.RowKit
set_option linter.unusedVariables false

/-- What a step may hold. -/
def StepOk (s : Int × Int × Int) : Prop := (-9223372036854775808 ≤ s.1 ∧ s.1 ≤ 9223372036854775807) ∧ (0 ≤ s.2.1 ∧ s.2.1 ≤ 4294967295) ∧ (-9223372036854775808 ≤ s.2.2 ∧ s.2.2 ≤ 9223372036854775807)
/-- A slice of steps that came in (or nil). -/
def StepRow (w : World) (a : Option Addr) (len : Nat) (ss : List (Int × Int × Int)) : Prop :=
  ss.length = len ∧ ∀ (i : Nat) s, ss[i]? = some s → StepOk s ∧ ∃ g off, a = some ⟨g, off, none⟩ ∧ g < w.heap.size ∧ w.cell? ⟨g, off + i * 3, none⟩ = some (.int .i64 s.1) ∧ w.cell? ⟨g, off + i * 3 + 1, none⟩ = some (.int .u32 s.2.1) ∧ w.cell? ⟨g, off + i * 3 + 2, none⟩ = some (.int .i64 s.2.2)
theorem StepRow.turn {w w' : World} {a : Option Addr} {len : Nat} {ss : List (Int × Int × Int)} (h : StepRow w a len ss) (ht : Turn [] w w') : StepRow w' a len ss := by
  refine ⟨h.1, fun i s hs => ?_⟩
  obtain ⟨ok, g, off, h1, h2, h3, h4, h5⟩ := h.2 i s hs
  exact ⟨ok, g, off, h1, Nat.lt_of_lt_of_le h2 ht.size, (ht.cell (p := ⟨g, off + i * 3, none⟩) h2 (by simp)).trans h3, (ht.cell (p := ⟨g, off + i * 3 + 1, none⟩) h2 (by simp)).trans h4, (ht.cell (p := ⟨g, off + i * 3 + 2, none⟩) h2 (by simp)).trans h5⟩

theorem zero_info : (Try.prog.info? 30).map (·.zero) = some (some (.agg (refCells 0))) := by kernel_rfl
theorem zero_ref (w : World) : (zeroValue 30).run Try.prog w = .ok (.agg (refCells 0)) w := by
  have h := zero_info
  cases hi : Try.prog.info? 30 with
  | none => rw [hi] at h; cases h
  | some i =>
    rw [hi] at h
    have hz : i.zero = some (.agg (refCells 0)) := by simpa using h
    simp [zeroValue, typeInfo, hi, hz]
theorem refCells_ne : refCells 0 ≠ #[] := by
  intro h
  have := congrArg (·[0]?) h
  rw [show (refCells 0)[0]? = _ from refCellsN_0 0 4097] at this
  simp at this
theorem refCellsN_set (base : Int) (n : Nat) : (refCellsN 0 n).setIfInBounds 0 (.int .u32 base) = refCellsN base n := by
  unfold refCellsN
  simp
theorem refCells_set (base : Int) : (refCells 0).setIfInBounds 0 (.int .u32 base) = refCells base := by
  exact refCellsN_set base 4097

set_option maxRecDepth 100000 in
set_option maxHeartbeats 6400000 in
theorem playsF (w : World) (base0 : Int) (hb0 : 0 ≤ base0 ∧ base0 ≤ 4294967295) (a : Option Addr) (len cap : Nat) (ss : List (Int × Int × Int)) (hs : StepRow w a len ss) (hcap : len ≤ cap) (hlen : len ≤ 200) :
    Calls Try.prog 3 #[.int .u32 base0, .slice a len cap] w fun e w' => e = .returned (.bool true) ∧ Below w.heap.size w w' := by
  have hzero := zero_ref
  have hne := refCells_ne
  have hset := refCells_set base0
  have hn := new_any w base0 ⟨hb0.1, by omega⟩
  have HS := Lib.hid hs
  have HSL := Lib.hid hs.1
  clear hs
  go_enter Try.func3, Try.ntmps3
  go_wp2_with fail
  refine hn.mono ?_
  rintro e w1 ⟨rfl, hs1, ht1⟩
  have HT1 := Lib.hid ht1
  have hsz1 := hs1.lt
  generalize hsb : w.heap.size + 1 = sb at *
  generalize hbm : w.heap.size = bm at *
  have HSB := Lib.hid hsb
  have HBM := Lib.hid hbm
  have HS1 := Lib.hid hs1
  clear ht1 hn hsb hbm hs1
  go_wp2
  have hr0 : IsRef (w1.alloc (.cells (refCells base0) 30)) w1.heap.size base0 none0 := IsRef.made w1 base0 ⟨hb0.1, by omega⟩ _
  have hset0 := HS1.out.turn (bs := []) ((Turn.refl [] w1).alloc (.cells (refCells base0) 30)) (by simp) (by simp)
  have hturn0 : Turn [] w (w1.alloc (.cells (refCells base0) 30)) := HT1.out.alloc _
  have hrb : sb < w1.heap.size ∧ bm < w1.heap.size ∧ w.heap.size ≤ w1.heap.size := ⟨HS1.out.lt, HS1.out.mem.lt, HT1.out.size⟩
  generalize w1.heap.size = rb at *
  have HR0 := Lib.hid hr0
  have HSET0 := Lib.hid hset0
  have HTURN0 := Lib.hid hturn0
  have HNZ := Lib.hid (And.intro hzero (And.intro hne hset))
  clear hr0 hset0 hturn0 hzero hne hset hsz1
  go_loopw [7] (fun x wr => ∃ (i : Nat) (base : Int) (f : Nat → Bool), i ≤ len ∧ x = .int .i64 (i : Int) ∧ IsSet wr sb bm base f ∧ IsRef wr rb base f ∧ Turn [] w wr) (fun x _ => len - (intOf x).toNat)
  case atStart => exact ⟨0, base0, none0, by omega, rfl, HSET0.out, HR0.out, HTURN0.out⟩
  case round =>
    obtain ⟨i, base, f, hi, rfl, hset, href, hturn⟩ := hrel
    have hsup := Lib.hid hset.sup
    have hin := hset.in
    have hsbw : w.heap.size ≤ sb := by have := HSB.out; have := HBM.out; omega
    have hbmw : w.heap.size ≤ bm := by have := HBM.out; omega
    have hrbw : w.heap.size ≤ rb := by omega
    have hsr : sb ≠ rb := by omega
    have hbr : bm ≠ rb := by omega
    by_cases hil : i < len
    · have hst := HS.out.turn hturn
      have hil' : i < ss.length := by rw [HSL.out]; exact hil
      obtain ⟨⟨hkd, hby, hnn⟩, g, off, rfl, hg1, hg2, hg3, hg4⟩ := hst.2 i ss[i] (by simp [hil'])
      generalize ss[i] = st at *
      obtain ⟨kd, by_, nn⟩ := st
      simp only at hkd hby hnn hg2 hg3 hg4
      have r0 := href.c0
      have HSET := Lib.hid hset
      have HREF := Lib.hid href
      have HTURN := Lib.hid hturn
      clear hset href hturn hst
      have hxx : IntKind.u32.wrap (base + by_) = (base + by_) % 4294967296 := rfl
      go_wp2
      go_quiet (fail)
      have hSW : IsSet (wr.drewN nq) sb bm base f := HSET.out.turn (bs := []) ((Turn.refl _ _).drewN _) (by simp) (by simp)
      have hRW : IsRef (wr.drewN nq) rb base f := HREF.out.turn (bs := []) ((Turn.refl _ _).drewN _) (by simp)
      have hTW : Turn [] w (wr.drewN nq) := HTURN.out.drewN _
      have hK : (wr.drewN nq).cell? ⟨g, off + i * 3, none⟩ = some (.int .i64 kd) := hg2
      have hNc : (wr.drewN nq).cell? ⟨g, off + i * 3 + 2, none⟩ = some (.int .i64 nn) := hg4
      have hgW : g < (wr.drewN nq).heap.size := hg1
      have HSW := Lib.hid hSW
      have HRW := Lib.hid hRW
      have HTW := Lib.hid hTW
      clear hSW hRW hTW hg1 hg2 hg3 hg4 r0 hxx
      generalize wr.drewN nq = W at *
      obtain ⟨x, hx⟩ : ∃ x, (base + by_) % 4294967296 = x := ⟨_, rfl⟩
      have hx9 : 0 ≤ x ∧ x ≤ 4294967295 := by omega
      rw [hx]
      clear hx
      obtain ⟨d, hd⟩ : ∃ d, dist base x = d := ⟨_, rfl⟩
      have HD := Lib.hid hd
      clear hd
      by_cases hk0 : kd = 0
      · have q0 : (kd == 0) = true := by simpa using hk0
        have hKK := Lib.hid hk0
        clear hk0
        have hadd := add_any W sb bm base x f HSW.out hx9
        have hradd := fun W2 (h : IsRef W2 rb base f) => radd_any W2 rb base x f h hx9
        rw [HD.out] at hadd
        simp only [HD.out] at hradd
        have HRADD := Lib.hid hradd
        clear hradd
        generalize (near d && !f d) = b at *
        go_wp2_with fail
        refine hadd.mono ?_
        rintro e w2 ⟨rfl, h2, t2⟩
        have hT2 := HTW.out.over t2 (by intro j hj; simp at hj; omega)
        have hR2 := HRW.out.turn t2 (by simp; omega)
        have H2 := Lib.hid h2
        have HT2 := Lib.hid hT2
        clear hadd h2 t2 hT2
        go_wp2_with fail
        refine (HRADD.out w2 hR2).mono ?_
        rintro e wn ⟨rfl, hRn, t3⟩
        have hSn := H2.out.turn t3 (by simp; omega) (by simp; omega)
        have hTn := HT2.out.over t3 (by intro j hj; simp at hj; omega)
        clear t3 hR2
        have HSETn := Lib.hid hSn
        have HREFn := Lib.hid hRn
        have HTn := Lib.hid hTn
        have hqn := fun j => base_any (wn.drewN j) sb bm _ _ (hSn.turn (bs := []) ((Turn.refl _ _).drewN _) (by simp) (by simp))
        have HQn := Lib.hid hqn
        have d0n := hRn.c0
        clear hSn hRn hTn hqn
        go_wp2
        go_quiet ((go_at_call 23; exact quiet_left (HQn.out _)))
        go_wp2
        go_roundw
        case rel => exact ⟨i + 1, _, _, by omega, by go_num, HSETn.out.turn (bs := []) ((Turn.refl _ _).drewN _) (by simp) (by simp), HREFn.out.turn (bs := []) ((Turn.refl _ _).drewN _) (by simp), HTn.out.drewN _⟩
        case measure => simp [intOf]; omega
      by_cases hk1 : kd = 1
      · have q0 : (kd == 0) = false := by simpa using hk0
        have q1 : (kd == 1) = true := by simpa using hk1
        have hKK := Lib.hid hk1
        clear hk1
        have hhas := has_any W sb bm base x f HSW.out hx9
        have hrhas := rhas_any W rb base x f HRW.out hx9
        rw [HD.out] at hhas hrhas
        generalize f d = b at *
        go_wp2_with fail
        refine hhas.mono ?_
        rintro e w' ⟨rfl, rfl⟩
        go_wp2_with fail
        refine hrhas.mono ?_
        rintro e w' ⟨rfl, n9, rfl⟩
        have hSn : IsSet (W.drewN n9) sb bm base f := HSW.out.turn (bs := []) ((Turn.refl _ _).drewN _) (by simp) (by simp)
        have hRn : IsRef (W.drewN n9) rb base f := HRW.out.turn (bs := []) ((Turn.refl _ _).drewN _) (by simp)
        have hTn : Turn [] w (W.drewN n9) := HTW.out.drewN _
        clear hhas hrhas
        generalize W.drewN n9 = wn at *
        have HSETn := Lib.hid hSn
        have HREFn := Lib.hid hRn
        have HTn := Lib.hid hTn
        have hqn := fun j => base_any (wn.drewN j) sb bm _ _ (hSn.turn (bs := []) ((Turn.refl _ _).drewN _) (by simp) (by simp))
        have HQn := Lib.hid hqn
        have d0n := hRn.c0
        clear hSn hRn hTn hqn
        go_wp2
        go_quiet ((go_at_call 23; exact quiet_left (HQn.out _)))
        go_wp2
        go_roundw
        case rel => exact ⟨i + 1, _, _, by omega, by go_num, HSETn.out.turn (bs := []) ((Turn.refl _ _).drewN _) (by simp) (by simp), HREFn.out.turn (bs := []) ((Turn.refl _ _).drewN _) (by simp), HTn.out.drewN _⟩
        case measure => simp [intOf]; omega
      by_cases hk2 : kd = 2
      · have q0 : (kd == 0) = false := by simpa using hk0
        have q1 : (kd == 1) = false := by simpa using hk1
        have q2 : (kd == 2) = true := by simpa using hk2
        have hKK := Lib.hid hk2
        clear hk2
        obtain ⟨n9, hR9⟩ := Run.exist f hsup.out
        have hset9 := settle_any W sb bm base f HSW.out n9 hR9
        have hrset9 := fun W2 (h : IsRef W2 rb base f) => rsettle_any W2 rb base f h n9 hR9
        have HRS := Lib.hid hrset9
        clear hrset9 hR9
        go_wp2_with fail
        refine hset9.mono ?_
        rintro e w2 ⟨rfl, h2, t2⟩
        have hT2 := HTW.out.over t2 (by intro j hj; simp at hj; omega)
        have hR2 := HRW.out.turn t2 (by simp; omega)
        have H2 := Lib.hid h2
        have HT2 := Lib.hid hT2
        clear hset9 h2 t2 hT2
        go_wp2_with fail
        refine (HRS.out w2 hR2).mono ?_
        rintro e wn ⟨rfl, hRn, t3⟩
        have hSn := H2.out.turn t3 (by simp; omega) (by simp; omega)
        have hTn := HT2.out.over t3 (by intro j hj; simp at hj; omega)
        clear t3 hR2
        have HSETn := Lib.hid hSn
        have HREFn := Lib.hid hRn
        have HTn := Lib.hid hTn
        have hqn := fun j => base_any (wn.drewN j) sb bm _ _ (hSn.turn (bs := []) ((Turn.refl _ _).drewN _) (by simp) (by simp))
        have HQn := Lib.hid hqn
        have d0n := hRn.c0
        clear hSn hRn hTn hqn
        go_wp2
        go_quiet ((go_at_call 23; exact quiet_left (HQn.out _)))
        go_wp2
        go_roundw
        case rel => exact ⟨i + 1, _, _, by omega, by go_num, HSETn.out.turn (bs := []) ((Turn.refl _ _).drewN _) (by simp) (by simp), HREFn.out.turn (bs := []) ((Turn.refl _ _).drewN _) (by simp), HTn.out.drewN _⟩
        case measure => simp [intOf]; omega
      by_cases hk3 : kd = 3
      · cases hnear : near d
        · have q0 : (kd == 0) = false := by simpa using hk0
          have q1 : (kd == 1) = false := by simpa using hk1
          have q2 : (kd == 2) = false := by simpa using hk2
          have q3 : (kd == 3) = true := by simpa using hk3
          have hKK := Lib.hid hk3
          clear hk3
          have hmv := move_no W sb bm base x f HSW.out hx9 (by rw [HD.out]; exact hnear)
          have hrmv := rmove_no W rb base x f HRW.out hx9 (by rw [HD.out]; exact hnear)
          clear hnear
          go_wp2_with fail
          refine hmv.mono ?_
          rintro e w' ⟨rfl, rfl⟩
          go_wp2_with fail
          refine hrmv.mono ?_
          rintro e w' ⟨rfl, rfl⟩
          have hSn := HSW.out
          have hRn := HRW.out
          have hTn := HTW.out
          clear hmv hrmv
          have HSETn := Lib.hid hSn
          have HREFn := Lib.hid hRn
          have HTn := Lib.hid hTn
          have hqn := fun j => base_any (W.drewN j) sb bm _ _ (hSn.turn (bs := []) ((Turn.refl _ _).drewN _) (by simp) (by simp))
          have HQn := Lib.hid hqn
          have d0n := hRn.c0
          clear hSn hRn hTn hqn
          go_wp2
          go_quiet ((go_at_call 23; exact quiet_left (HQn.out _)))
          go_wp2
          go_roundw
          case rel => exact ⟨i + 1, _, _, by omega, by go_num, HSETn.out.turn (bs := []) ((Turn.refl _ _).drewN _) (by simp) (by simp), HREFn.out.turn (bs := []) ((Turn.refl _ _).drewN _) (by simp), HTn.out.drewN _⟩
          case measure => simp [intOf]; omega
        · have q0 : (kd == 0) = false := by simpa using hk0
          have q1 : (kd == 1) = false := by simpa using hk1
          have q2 : (kd == 2) = false := by simpa using hk2
          have q3 : (kd == 3) = true := by simpa using hk3
          have hKK := Lib.hid hk3
          clear hk3
          obtain ⟨n9, hR9⟩ := Run.exist (shf d f) (hsup.out.shf d)
          have hmv := move_yes W sb bm base x f HSW.out hx9 d HD.out hnear n9 hR9
          have hrmv := fun W2 (h : IsRef W2 rb base f) => rmove_yes W2 rb base x f h hx9 d HD.out hnear n9 hR9
          have HRM := Lib.hid hrmv
          clear hrmv hR9 hnear
          go_wp2_with fail
          refine hmv.mono ?_
          rintro e w2 ⟨rfl, h2, t2⟩
          have hT2 := HTW.out.over t2 (by intro j hj; simp at hj; omega)
          have hR2 := HRW.out.turn t2 (by simp; omega)
          have H2 := Lib.hid h2
          have HT2 := Lib.hid hT2
          clear hmv h2 t2 hT2
          go_wp2_with fail
          refine (HRM.out w2 hR2).mono ?_
          rintro e wn ⟨rfl, hRn, t3⟩
          have hSn := H2.out.turn t3 (by simp; omega) (by simp; omega)
          have hTn := HT2.out.over t3 (by intro j hj; simp at hj; omega)
          clear t3 hR2
          have HSETn := Lib.hid hSn
          have HREFn := Lib.hid hRn
          have HTn := Lib.hid hTn
          have hqn := fun j => base_any (wn.drewN j) sb bm _ _ (hSn.turn (bs := []) ((Turn.refl _ _).drewN _) (by simp) (by simp))
          have HQn := Lib.hid hqn
          have d0n := hRn.c0
          clear hSn hRn hTn hqn
          go_wp2
          go_quiet ((go_at_call 23; exact quiet_left (HQn.out _)))
          go_wp2
          go_roundw
          case rel => exact ⟨i + 1, _, _, by omega, by go_num, HSETn.out.turn (bs := []) ((Turn.refl _ _).drewN _) (by simp) (by simp), HREFn.out.turn (bs := []) ((Turn.refl _ _).drewN _) (by simp), HTn.out.drewN _⟩
          case measure => simp [intOf]; omega
      by_cases hk4 : kd = 4
      · have q0 : (kd == 0) = false := by simpa using hk0
        have q1 : (kd == 1) = false := by simpa using hk1
        have q2 : (kd == 2) = false := by simpa using hk2
        have q3 : (kd == 3) = false := by simpa using hk3
        have q4 : (kd == 4) = true := by simpa using hk4
        have hKK := Lib.hid hk4
        clear hk4
        obtain ⟨m9, hL9⟩ := Lst.exist f hsup.out
        obtain ⟨G9, hG9⟩ := IsGaps.exist f hsup.out 1
        have hGl9 := (gaps_all hsup.out hG9).2
        obtain ⟨L9, hT9⟩ : ∃ L9, G9.take nn.toNat = L9 := ⟨_, rfl⟩
        obtain ⟨n9, hn9⟩ : ∃ n9, L9.length = n9 := ⟨_, rfl⟩
        have hnl9 : n9 ≤ 8192 := by rw [← hn9, ← hT9]; simp; omega
        have hga := fun W2 (h : IsSet W2 sb bm base f) => gaps_n W2 sb bm base f h nn hnn m9 hL9 G9 hG9 L9 hT9 n9 hn9
        have hgb := fun W2 (h : IsRef W2 rb base f) => rgaps_n W2 rb base f h nn hnn G9 hG9 L9 hT9 n9 hn9
        have HGA := Lib.hid hga
        have HGB := Lib.hid hgb
        have HN9 := Lib.hid hn9
        have hi0 : (0 : Int) ≤ (i : Int) := by omega
        have hi1 : (i : Int) < (len : Int) := by omega
        clear hga hgb hn9 hT9 hG9 hL9 hGl9
        go_wp2
        go_region_held3 (fun w' => w'.cell? ⟨g, off + i * 3 + 2, none⟩ = some (.int .i64 nn))
          (first
            | go_keep
            | exact (ht4.cell (p := ⟨g, off + i * 3 + 2, none⟩) (Nat.lt_of_lt_of_le hgW (Nat.le_trans ht2.size ht3.size)) (by simp)).trans ((ht3.cell (p := ⟨g, off + i * 3 + 2, none⟩) (Nat.lt_of_lt_of_le hgW ht2.size) (by simp)).trans ((ht2.cell (p := ⟨g, off + i * 3 + 2, none⟩) hgW (by simp)).trans hNc))
            | exact (ht3.cell (p := ⟨g, off + i * 3 + 2, none⟩) (Nat.lt_of_lt_of_le hgW ht2.size) (by simp)).trans ((ht2.cell (p := ⟨g, off + i * 3 + 2, none⟩) hgW (by simp)).trans hNc)
            | exact (ht2.cell (p := ⟨g, off + i * 3 + 2, none⟩) hgW (by simp)).trans hNc)
          (first
            | (go_at_call 21; refine (HGA.out _ (HSW.out.turn (bs := []) ((Turn.refl _ _).drew) (by simp) (by simp))).mono ?_; rintro e w2 ⟨a2, c2, rfl, hc2, hr2, ht2⟩)
            | (go_at_call 22; refine (HGB.out _ ((HRW.out.turn (bs := []) ((Turn.refl _ _).drew) (by simp)).turn ht2 (by simp))).mono ?_; rintro e w3 ⟨a3, c3, rfl, hc3, hr3, ht3⟩)
            | (go_at_call 20; refine (same_any _ a2 a3 n9 c2 c3 L9 HN9.out (hr2.turn ht3) hr3 hnl9).mono ?_; rintro e w4 ⟨rfl, ht4⟩))
        have t9 : Turn [] W w4 := (((Turn.refl _ _).drew.trans ht2).trans ht3).trans ht4
        have hSn := HSW.out.turn t9 (by simp) (by simp)
        have hRn := HRW.out.turn t9 (by simp)
        have hTn := HTW.out.trans t9
        clear ht2 ht3 ht4 hr2 hr3 t9
        have HSETn := Lib.hid hSn
        have HREFn := Lib.hid hRn
        have HTn := Lib.hid hTn
        have hqn := fun j => base_any (w4.drewN j) sb bm _ _ (hSn.turn (bs := []) ((Turn.refl _ _).drewN _) (by simp) (by simp))
        have HQn := Lib.hid hqn
        have d0n := hRn.c0
        clear hSn hRn hTn hqn
        go_wp2
        go_quiet ((go_at_call 23; exact quiet_left (HQn.out _)))
        go_wp2
        go_roundw
        case rel => exact ⟨i + 1, _, _, by omega, by go_num, HSETn.out.turn (bs := []) ((Turn.refl _ _).drewN _) (by simp) (by simp), HREFn.out.turn (bs := []) ((Turn.refl _ _).drewN _) (by simp), HTn.out.drewN _⟩
        case measure => simp [intOf]; omega
      have q0 : (kd == 0) = false := by simpa using hk0
      have q1 : (kd == 1) = false := by simpa using hk1
      have q2 : (kd == 2) = false := by simpa using hk2
      have q3 : (kd == 3) = false := by simpa using hk3
      have q4 : (kd == 4) = false := by simpa using hk4
      have hSn := HSW.out
      have hRn := HRW.out
      have hTn := HTW.out
      have HSETn := Lib.hid hSn
      have HREFn := Lib.hid hRn
      have HTn := Lib.hid hTn
      have hqn := fun j => base_any (W.drewN j) sb bm _ _ (hSn.turn (bs := []) ((Turn.refl _ _).drewN _) (by simp) (by simp))
      have HQn := Lib.hid hqn
      have d0n := hRn.c0
      clear hSn hRn hTn hqn
      go_wp2
      go_quiet ((go_at_call 23; exact quiet_left (HQn.out _)))
      go_wp2
      go_roundw
      case rel => exact ⟨i + 1, _, _, by omega, by go_num, HSETn.out.turn (bs := []) ((Turn.refl _ _).drewN _) (by simp) (by simp), HREFn.out.turn (bs := []) ((Turn.refl _ _).drewN _) (by simp), HTn.out.drewN _⟩
      case measure => simp [intOf]; omega
    · obtain ⟨m9, hL9⟩ := Lst.exist f hsup.out
      obtain ⟨G9, hG9⟩ := IsGaps.exist f hsup.out 1
      have hGl9 := (gaps_all hsup.out hG9).2
      obtain ⟨x9, hx9⟩ : ∃ x9, (base + (m9 : Int)) % 4294967296 = x9 := ⟨_, rfl⟩
      have hc := count_any wr sb bm base f hset
      have hrc := rcount_any wr rb base f href
      have hla := last_at wr sb bm base f hset m9 hL9 x9 hx9
      have hrla := fun W2 (h : IsRef W2 rb base f) => rlast_any W2 rb base f h m9 hL9 x9 hx9
      have hga := fun W2 (h : IsSet W2 sb bm base f) => gaps_full W2 sb bm base f h m9 hL9 G9 hG9
      have hgb := fun W2 (h : IsRef W2 rb base f) => rgaps_n W2 rb base f h 4096 (by omega) G9 hG9 G9 (gaps_all hsup.out hG9).1 G9.length rfl
      have HRLA := Lib.hid hrla
      have HGA := Lib.hid hga
      have HGB := Lib.hid hgb
      have HSET := Lib.hid hset
      have HREF := Lib.hid href
      have HTURN := Lib.hid hturn
      clear hrla hga hgb hL9 hG9 hx9 hset href hturn
      go_wp2_with fail
      refine hc.mono ?_
      rintro e w' ⟨rfl, rfl⟩
      go_wp2_with fail
      refine hrc.mono ?_
      rintro e w' ⟨rfl, rfl⟩
      go_wp2_with fail
      refine hla.mono ?_
      rintro e w2 ⟨rfl, ht2⟩
      have HT2 := Lib.hid ht2
      clear hc hrc hla ht2
      go_wp2_with fail
      refine (HRLA.out w2 (HREF.out.turn HT2.out (by simp))).mono ?_
      rintro e w' ⟨rfl, rfl⟩
      go_wp2_with fail
      refine (HGA.out w2 (HSET.out.turn HT2.out (by simp) (by simp))).mono ?_
      rintro e w3 ⟨a3, c3, rfl, hc3, hr3, ht3⟩
      have HT3 := Lib.hid (HT2.out.trans ht3)
      have HR3 := Lib.hid hr3
      clear ht3 hr3
      go_wp2_with fail
      refine (HGB.out w3 (HREF.out.turn HT3.out (by simp))).mono ?_
      rintro e w4 ⟨a4, c4, rfl, hc4, hr4, ht4⟩
      have HT4 := Lib.hid (HT3.out.trans ht4)
      have HR34 := Lib.hid (HR3.out.turn ht4)
      have HR4 := Lib.hid hr4
      clear ht4 hr4
      go_wp2_with fail
      refine (same_any w4 a3 a4 G9.length c3 _ G9 rfl HR34.out HR4.out (by omega)).mono ?_
      rintro e w5 ⟨rfl, ht5⟩
      have HT5 := Lib.hid (HT4.out.trans ht5)
      clear ht5
      go_wp2_with fail
      refine (works_any w5).mono ?_
      rintro e w6 ⟨rfl, ht6⟩
      have HT6 := Lib.hid (HTURN.out.trans (HT5.out.trans ht6))
      clear ht6
      go_wp2
      go_ret
      exact ⟨rfl, HT6.out.below (Nat.le_refl _) (by simp)⟩

def IsSteps (w : World) (a : Option Addr) (len cap : Nat) (ss : List (Int × Int × Int)) : Prop := StepRow w a len ss ∧ len ≤ cap
theorem isSteps_of {H : Type} {enc : TypeId × Value → H} {w : World} {base : Nat} {spare : Nat → Bool} {held : Bool} {fuel : Nat} {x : DataW H × List MemPlace} {a : Option Addr} {len cap : Nat}
    (h : DataW.trod enc Try.prog w base spare held fuel 23 [.slice a len cap] = some x) : ∃ ss, IsSteps w a len cap ss := by
  rcases open_int_structs (ks := [.i64, .u32, .i64]) Try.underlying23 Try.underlying32 (by kernel_rfl) (by kernel_rfl) (by kernel_rfl) h with h0 | ⟨y, len', cap', m, h0, hl, hm, hlm, hall⟩
  · simp only [List.cons.injEq, Value.slice.injEq, and_true] at h0
    obtain ⟨rfl, rfl, rfl⟩ := h0
    exact ⟨[], ⟨rfl, fun i s hs => by simp at hs⟩, Nat.le_refl _⟩
  · simp only [List.cons.injEq, Value.slice.injEq, and_true] at h0
    obtain ⟨rfl, rfl, rfl⟩ := h0
    have hp : ∀ i, i < len → ∃ s : Int × Int × Int, StepOk s ∧ ∃ g off, y = ⟨g, off, none⟩ ∧ g < w.heap.size ∧ w.cell? ⟨g, off + i * 3, none⟩ = some (.int .i64 s.1) ∧ w.cell? ⟨g, off + i * 3 + 1, none⟩ = some (.int .u32 s.2.1) ∧ w.cell? ⟨g, off + i * 3 + 2, none⟩ = some (.int .i64 s.2.2) := by
      intro i hi
      obtain ⟨z0, c0, _⟩ := hall 0 (by omega) 0 .i64 rfl
      obtain ⟨z1, c1, w1⟩ := hall i (by omega) 0 .i64 rfl
      obtain ⟨z2, c2, w2⟩ := hall i (by omega) 1 .u32 rfl
      obtain ⟨z3, c3, w3⟩ := hall i (by omega) 2 .i64 rfl
      obtain ⟨b, off, spot⟩ := y
      have hspot : spot = none := by simpa [Addr.add] using World.cell?_spot c0
      subst hspot
      have hadd : ∀ k, (⟨b, off, none⟩ : Addr).add k = ⟨b, off + k, none⟩ := by intro k; unfold Addr.add; split <;> simp_all
      rw [hadd] at c1 c2 c3
      refine ⟨(z1, z2, z3), ⟨wf_i64_in w1, wf_u32_in w2, wf_i64_in w3⟩, b, off, rfl, World.block_lt_of_cell? w _ c1, c1, c2, c3⟩
    obtain ⟨ss, hss, hall2⟩ := choose_below len hp
    refine ⟨ss, ⟨hss, fun i s hs => ?_⟩, hl⟩
    obtain ⟨ok, g, off, h1, h2⟩ := hall2 i s hs
    exact ⟨ok, g, off, by rw [h1], h2⟩

set_option maxRecDepth 100000 in
set_option maxHeartbeats 800000 in
theorem spansPlays_walk (base : Int) (a : Option Addr) (len cap : Nat) (ss : List (Int × Int × Int)) (w : World) (wb : (Lit.int .u32 base).wf = true) (hz : IsSteps w a len cap ss) :
    Calls Try.prog 3 #[.int .u32 base, .slice a len cap] w fun e w' => e = .returned (.bool true) ∧ Below w.heap.size w w' := by
  have hb := wf_u32_in wb
  obtain ⟨hs, hcap⟩ := hz
  clear wb
  by_cases hlen : len ≤ 200
  · exact playsF w base hb a len cap ss hs hcap hlen
  · clear hs
    go_enter Try.func3, Try.ntmps3
    go_wp2_with fail
    refine (works_any w).mono ?_
    rintro e w1 ⟨rfl, ht⟩
    have HT := Lib.hid ht
    clear ht
    go_wp2
    go_ret
    exact ⟨rfl, HT.out.below (Nat.le_refl _) (by simp)⟩
end Go.Proofs.Ytjdkbcecnlfhjaa
