/-
  Stage 9: are gaps apart? The program's and the reference's.
-/
import Derived.Test.YtlihcckgnnnekaaBdPrs
import Derived.BigQuiet
import Derived.Deep.QuietTactic
namespace Go.Proofs.Ytlihcckgnnnekaa
open Go.RowKit
set_option linter.unusedVariables false
set_option linter.unusedSimpArgs false

theorem quiet_of {P : Program} {f : FuncId} {args : Array Value} {w : World} {n : Nat} {v : Value}
    (h : Calls P f args (w.drewN n) fun e w' => e = .returned v ∧ w.drewN n = w') : Calls P f args (w.drewN n) fun e w'' => e = .returned v ∧ ∃ m, w'' = w.drewN m :=
  h.mono fun _ _ ⟨he, hm⟩ => ⟨he, n, hm.symm⟩

/-- Do these gaps rise, each apart from the one ahead, the first from 'last'? -/
def apartF (last : Int) : List (Int × Int) → Bool
  | [] => true
  | p :: r => !decide (p.1 < last + 2) && (!decide (p.2 < p.1) && apartF p.2 r)
theorem apartF_step {last : Int} {gs : List (Int × Int)} {j : Nat} {p : Int × Int} (h : gs[j]? = some p) : apartF last (gs.drop j) = (!decide (p.1 < last + 2) && (!decide (p.2 < p.1) && apartF p.2 (gs.drop (j + 1)))) := by
  have hj : j < gs.length := (List.getElem?_eq_some_iff.1 h).1
  rw [List.drop_eq_getElem_cons hj, (List.getElem?_eq_some_iff.1 h).2]
  rfl
theorem apartF_end {last : Int} {gs : List (Int × Int)} {j : Nat} (h : gs.length ≤ j) : apartF last (gs.drop j) = true := by rw [List.drop_eq_nil_of_le h]; rfl

set_option maxRecDepth 100000 in
set_option maxHeartbeats 800000 in
theorem areApart_any (q : Option Addr) (n c : Nat) (gs : List (Int × Int)) (w : World) (hg : Prs w q n gs) (hn : n ≤ 1048576) :
    Calls Try.prog 65 #[.slice q n c] w fun e w' => e = .returned (.bool (apartF 0 gs)) ∧ Below w.heap.size w w' := by
  have HG := Lib.hid hg
  obtain ⟨r, hr⟩ : ∃ r, r = apartF 0 gs := ⟨_, rfl⟩
  rw [← hr]
  have HR := Lib.hid hr
  clear hg hr
  go_enter Try.func65, Try.ntmps65
  go_wp2
  go_loopw [3, 8] (fun v ii wr => ∃ (j : Nat) (last : Int), j ≤ n ∧ ii = .int .i64 (j : Int) ∧ v = .int .i64 last ∧ 0 ≤ last ∧ last < 65536 ∧ r = apartF last (gs.drop j) ∧ Below w.heap.size w wr) (fun _ ii _ => n - (intOf ii).toNat)
  case atStart => exact ⟨0, 0, Nat.zero_le _, rfl, rfl, by omega, by omega, by simpa using HR.out, Below.refl _ _⟩
  case round =>
    obtain ⟨j, last, hj, rfl, rfl, l0, l1, hrr, hbl⟩ := hrel
    have HRR := Lib.hid hrr
    have HB := Lib.hid hbl
    clear hrr hbl
    by_cases hjn : j < n
    · obtain ⟨p, hp⟩ : ∃ p, gs[j]? = some p := ⟨gs[j]'(by rw [HG.out.1]; exact hjn), by simp [HG.out.1, hjn]⟩
      obtain ⟨p0, p1, p2, p3⟩ := HG.out.2.1 p (List.mem_of_getElem? hp)
      obtain ⟨gg, off, hq, hlt, e0, e1⟩ := HG.out.2.2 j p hp
      have e0' := (HB.out.cell (p := ⟨gg, off + j * 2, none⟩) hlt).trans e0
      have e1' := (HB.out.cell (p := ⟨gg, off + j * 2 + 1, none⟩) hlt).trans e1
      clear e0 e1
      have hstep := HRR.out
      rw [apartF_step hp] at hstep
      obtain ⟨pa, pb⟩ := p
      simp only at p0 p1 p2 p3 e0' e1' hstep
      subst hq
      clear hp
      have hB2 : Below w.heap.size w (wr.alloc (.cells #[.int .u16 pa, .int .u16 pb] 79)) := HB.out.alloc HB.out.size _
      have HB2 := Lib.hid hB2
      have HST := Lib.hid hstep
      clear hB2 hstep HRR
      by_cases h1 : pa < last + 2
      · have hr : r = false := by rw [HST.out]; simp [h1]
        clear HST
        go_wp2
        go_ret
        first | exact ⟨rfl, HB2.out⟩ | (rw [hr]; exact ⟨rfl, HB2.out⟩)
      · by_cases h2 : pb < pa
        · have hr : r = false := by rw [HST.out]; simp [h2]
          clear HST
          go_wp2
          go_ret
          first | exact ⟨rfl, HB2.out⟩ | (rw [hr]; exact ⟨rfl, HB2.out⟩)
        · have hr : r = apartF pb (gs.drop (j + 1)) := by rw [HST.out]; simp [h1, h2]
          have HR2 := Lib.hid hr
          clear HST hr
          go_wp2
          exact ⟨⟨j + 1, pb, by omega, congrArg (Value.int .i64) (by omega), rfl, p2, p3, HR2.out, HB2.out⟩, by simp [intOf]; omega⟩
    · obtain rfl : n = j := by omega
      have hr : r = true := by rw [HRR.out]; exact apartF_end (by rw [HG.out.1]; exact Nat.le_refl _)
      clear HRR
      go_wp2
      go_ret
      first | exact ⟨rfl, HB.out⟩ | (rw [hr]; exact ⟨rfl, HB.out⟩)

set_option maxRecDepth 100000 in
set_option maxHeartbeats 800000 in
theorem rApart_any (q : Option Addr) (n c : Nat) (gs : List (Int × Int)) (w : World) (hg : Prs w q n gs) (hn : n ≤ 1048576) :
    Calls Try.prog 66 #[.slice q n c] w fun e w' => e = .returned (.bool (apartF 0 gs)) ∧ Below w.heap.size w w' := by
  have HG := Lib.hid hg
  obtain ⟨r, hr⟩ : ∃ r, r = apartF 0 gs := ⟨_, rfl⟩
  rw [← hr]
  have HR := Lib.hid hr
  clear hg hr
  go_enter Try.func66, Try.ntmps66
  go_wp2
  go_loopw [3, 4] (fun v ii wr => ∃ (j : Nat) (last : Int), j ≤ n ∧ ii = .int .i64 (j : Int) ∧ v = .int .i64 last ∧ 0 ≤ last ∧ last < 65536 ∧ r = apartF last (gs.drop j) ∧ Below w.heap.size w wr) (fun _ ii _ => n - (intOf ii).toNat)
  case atStart => exact ⟨0, 0, Nat.zero_le _, rfl, rfl, by omega, by omega, by simpa using HR.out, Below.refl _ _⟩
  case round =>
    obtain ⟨j, last, hj, rfl, rfl, l0, l1, hrr, hbl⟩ := hrel
    have HRR := Lib.hid hrr
    have HB := Lib.hid hbl
    clear hrr hbl
    by_cases hjn : j < n
    · obtain ⟨p, hp⟩ : ∃ p, gs[j]? = some p := ⟨gs[j]'(by rw [HG.out.1]; exact hjn), by simp [HG.out.1, hjn]⟩
      obtain ⟨p0, p1, p2, p3⟩ := HG.out.2.1 p (List.mem_of_getElem? hp)
      obtain ⟨gg, off, hq, hlt, e0, e1⟩ := HG.out.2.2 j p hp
      have e0' := (HB.out.cell (p := ⟨gg, off + j * 2, none⟩) hlt).trans e0
      have e1' := (HB.out.cell (p := ⟨gg, off + j * 2 + 1, none⟩) hlt).trans e1
      clear e0 e1
      have hstep := HRR.out
      rw [apartF_step hp] at hstep
      obtain ⟨pa, pb⟩ := p
      simp only at p0 p1 p2 p3 e0' e1' hstep
      subst hq
      clear hp
      have HST := Lib.hid hstep
      clear hstep HRR
      have hj0 : (0 : Int) ≤ (j : Int) := by omega
      have hj1 : (j : Int) < (n : Int) := by omega
      by_cases h1 : pa < last + 2
      · have hr : r = false := by rw [HST.out]; simp [h1]
        clear HST
        go_wp2
        go_quiet (fail)
        go_wp2
        go_ret
        first | exact ⟨rfl, below_drewN HB.out _⟩ | (rw [hr]; exact ⟨rfl, below_drewN HB.out _⟩)
      · have hd1 : decide (pa < last + 2) = false := by simpa using h1
        by_cases h2 : pb < pa
        · have hr : r = false := by rw [HST.out]; simp [h2]
          clear HST
          go_wp2
          go_quiet (fail)
          go_wp2
          go_ret
          first | exact ⟨rfl, below_drewN HB.out _⟩ | (rw [hr]; exact ⟨rfl, below_drewN HB.out _⟩)
        · have hr : r = apartF pb (gs.drop (j + 1)) := by rw [HST.out]; simp [h1, h2]
          have HR2 := Lib.hid hr
          clear HST hr
          have hd2 : decide (pb < pa) = false := by simpa using h2
          go_wp2
          go_quiet (fail)
          go_wp2
          exact ⟨⟨j + 1, pb, by omega, congrArg (Value.int .i64) (by omega), rfl, p2, p3, HR2.out, below_drewN HB.out _⟩, by simp [intOf]; omega⟩
    · obtain rfl : n = j := by omega
      have hr : r = true := by rw [HRR.out]; exact apartF_end (by rw [HG.out.1]; exact Nat.le_refl _)
      clear HRR
      go_wp2
      go_ret
      first | exact ⟨rfl, HB.out⟩ | (rw [hr]; exact ⟨rfl, HB.out⟩)
end Go.Proofs.Ytlihcckgnnnekaa
