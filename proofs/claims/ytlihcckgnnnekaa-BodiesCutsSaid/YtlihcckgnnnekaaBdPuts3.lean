/-
  Stage 9: PutSack and PutForward, the program's and the reference's. Written by genputs3.py.
-/
import Derived.Test.YtlihcckgnnnekaaBdPrs
namespace Go.Proofs.Ytlihcckgnnnekaa
open Go.RowKit
set_option linter.unusedVariables false
set_option linter.unusedSimpArgs false

set_option maxRecDepth 100000 in
set_option maxHeartbeats 1600000 in
theorem pputForward' (x0 : Int) (q : Option Addr) (n c : Nat) (gs : List (Int × Int)) (w : World) (hg : Prs w q n gs) (hn : n ≤ 1048576) (h00 : 0 ≤ x0) (h01 : x0 < 4294967296) : Calls Try.prog 34 #[.agg #[.int .u32 x0, .slice q n c]] w fun e w' => Puts w (192) (0) (enc (x0) 4 ++ pairsB gs) e w' := by
  have HG0 := Lib.hid hg
  clear hg
  obtain ⟨wz, hwz⟩ : ∃ wz, w.alloc (.cells #[.int .u32 x0, .slice q n c] 56) = wz := ⟨_, rfl⟩
  have hbz : Below w.heap.size w wz := by rw [← hwz]; exact (Below.refl _ _).alloc (Nat.le_refl _) _
  have hsz : wz.heap.size = w.heap.size + 1 := by rw [← hwz]; simp
  have hDz : Arr wz w.heap.size 56 [.int .u32 x0, .slice q n c] := by rw [← hwz]; exact arr_new _ _ _
  obtain ⟨w0, hw0⟩ : ∃ w0, wz.alloc (.cells #[.int .u8 0, .int .u8 0, .slice none 0 0] 28) = w0 := ⟨_, rfl⟩
  have hb00 : Below wz.heap.size wz w0 := by rw [← hw0]; exact chunkBelow _ 0 0 _
  have hs0 : w0.heap.size = wz.heap.size + 1 := by rw [← hw0]; simp
  have hA0 : Arr w0 wz.heap.size 28 [.int .u8 0, .int .u8 0, .slice none 0 0] := by rw [← hw0]; exact chunkBox _ 0 0 _
  have HD := Lib.hid (hDz.keep hb00)
  have H0 := Lib.hid (And.intro (hbz.trans (hb00.mono hbz.size)) (And.intro hs0 (And.intro hA0 hbz.size)))
  have HS0 := Lib.hid (And.intro (Below.refl w0.heap.size w0) (Row8.nil w0.heap.size w0))
  have HLT := Lib.hid (show w.heap.size < w0.heap.size by omega)
  clear hbz hb00 hs0 hA0 hsz hDz
  go_enter Try.func34, Try.ntmps34
  have hDi := HD.out.below HS0.out.1 HLT.out
  have d0 := hDi.cell (i := 0) rfl
  have d1 := hDi.cell (i := 1) rfl
  clear hDi
  have hp := put1 w0.heap.size none (0) 0 4 ([]) (x0) w0 HS0.out.2 HS0.out.1.size (by omega) h00 (by omega) rfl
  try simp only [Nat.zero_add, List.nil_append, Nat.reduceMul, Nat.reduceAdd] at hp
  have HP1 := Lib.hid hp
  clear hp
  go_wp2_with fail
  refine HP1.out.mono ?_
  rintro e w1 ⟨a1, c1, rfl, hb1, hr1⟩
  clear d0 d1
  have HS1 := Lib.hid (And.intro (HS0.out.1.trans hb1) hr1)
  clear hb1 hr1 HP1 HS0
  have hDi := HD.out.below HS1.out.1 HLT.out
  have d0 := hDi.cell (i := 0) rfl
  have d1 := hDi.cell (i := 1) rfl
  clear hDi
  go_wp2
  go_loopw [3, 14] (fun v ii wr => ∃ (j : Nat) (a2 : Option Addr) (c2 : Nat), j ≤ n ∧ ii = .int .i64 (j : Int) ∧ v = .slice a2 (4 + 4 * j) c2 ∧ Row8 w0.heap.size wr a2 (4 + 4 * j) c2 (enc (x0) 4 ++ pairsB (gs.take j)) ∧ Below w0.heap.size w0 wr) (fun _ ii _ => n - (intOf ii).toNat)
  case atStart => exact ⟨0, _, _, Nat.zero_le _, rfl, rfl, by simpa [pairsB] using HS1.out.2, HS1.out.1⟩
  case round =>
    obtain ⟨j, a2, c2, hj, rfl, rfl, hrow, hbl⟩ := hrel
    have HS := Lib.hid (And.intro hbl hrow)
    clear hrow hbl HS1 d0 d1
    have hDi := HD.out.below HS.out.1 HLT.out
    have d0 := hDi.cell (i := 0) rfl
    have d1 := hDi.cell (i := 1) rfl
    clear hDi
    by_cases hjn : j < n
    · obtain ⟨p, hp⟩ : ∃ p, gs[j]? = some p := ⟨gs[j]'(by rw [HG0.out.1]; exact hjn), by simp [HG0.out.1, hjn]⟩
      have hin := HG0.out.2.1 p (List.mem_of_getElem? hp)
      obtain ⟨p0, p1, p2, p3⟩ := hin
      obtain ⟨gg, off, hq, hlt, e0, e1⟩ := (HG0.out.below H0.out.1 (Nat.le_refl _)).2.2 j p hp
      have e0' := (HS.out.1.cell (p := ⟨gg, off + j * 2, none⟩) hlt).trans e0
      have e1' := (HS.out.1.cell (p := ⟨gg, off + j * 2 + 1, none⟩) hlt).trans e1
      clear e0 e1
      obtain ⟨pa, pb⟩ := p
      simp only at p0 p1 p2 p3 e0' e1'
      have HPX := Lib.hid hp
      have HQ := Lib.hid hq
      clear hp
      subst hq
      clear HQ
      have hal : Below wr.heap.size wr (wr.alloc (.cells #[.int .u16 pa, .int .u16 pb] 100)) := (Below.refl _ _).alloc (Nat.le_refl _) _
      have hp := put2 w0.heap.size a2 (4 + 4 * j) c2 2 (enc (x0) 4 ++ pairsB (gs.take j)) pa pb (wr.alloc (.cells #[.int .u16 pa, .int .u16 pb] 100)) (HS.out.2.keep hal) (Nat.le_trans HS.out.1.size hal.size) (by omega) p0 (by omega) p2 (by omega) rfl
      rw [show (wr.alloc (.cells #[.int .u16 pa, .int .u16 pb] 100)).heap.size = wr.heap.size + 1 from by simp] at hp
      simp only [Nat.reduceMul] at hp
      have HP := Lib.hid hp
      have HAL := Lib.hid (hal.mono HS.out.1.size)
      clear hp hal
      go_wp2_with fail
      refine HP.out.mono ?_
      rintro e w5 ⟨a5, c5, rfl, hb5, hr5⟩
      have HB5 := Lib.hid (HS.out.1.trans (HAL.out.trans hb5))
      have hr6 : Row8 w0.heap.size w5 a5 (4 + 4 * (j + 1)) c5 (enc (x0) 4 ++ pairsB (gs.take (j + 1))) := by
        rw [pairsB_next HPX.out, ← List.append_assoc]
        have e : 4 + 4 * (j + 1) = 4 + 4 * j + 4 := by omega
        rw [e]
        exact hr5
      have HR6 := Lib.hid hr6
      have hln : 4 + 4 * j + 4 = 4 + 4 * (j + 1) := by omega
      rw [hln]
      clear hr5 hr6 hb5 HP HAL hln
      go_wp2
      exact ⟨⟨j + 1, a5, c5, by omega, congrArg (Value.int .i64) (by omega), rfl, HR6.out, HB5.out⟩, by simp [intOf]; omega⟩
    · obtain rfl : n = j := by omega
      have HS2 := Lib.hid (And.intro HS.out.1 (show Row8 w0.heap.size wr a2 (4 + 4 * n) c2 (enc (x0) 4 ++ pairsB gs) from by have h := HS.out.2; rwa [List.take_of_length_le (by rw [HG0.out.1]; exact Nat.le_refl _)] at h))
      clear HS hj
      have hA := H0.out.2.2.1.below HS2.out.1 (by have := H0.out.2.1; omega)
      have fr0 := hA.free 0
      have fr1 := hA.free 1
      have fr2 := hA.free 2
      have y0 := hA.cell (i := 0) rfl
      have y1 := hA.cell (i := 1) rfl
      have y2 := hA.cell (i := 2) rfl
      obtain ⟨W3, hW3⟩ : ∃ W3, ((wr.setCell ⟨wz.heap.size, 0, none⟩ (.int .u8 (192))).setCell ⟨wz.heap.size, 1, none⟩ (.int .u8 (0))).setCell ⟨wz.heap.size, 2, none⟩ (.slice a2 (4 + 4 * n) c2) = W3 := ⟨_, rfl⟩
      have hE := puts_end (H0.out.1.trans (HS2.out.1.mono H0.out.1.size)) (H0.out.2.2.2) (by have := H0.out.2.1; omega) hA HS2.out.2 hW3
      have z0 := hE.2.2.cell (i := 0) rfl
      have z1 := hE.2.2.cell (i := 1) rfl
      have z2 := hE.2.2.cell (i := 2) rfl
      have HE := Lib.hid (And.intro hE.1 (And.intro hE.2.1 HS2.out.2.len))
      clear hE hA HS2 H0
      go_wp2
      have hl := HE.out.2.2
      skip
      exact bodyPost_ret (by simp [results, Try.results34, go_sem, z0, z1, z2]; rfl) rfl ⟨a2, c2, by rw [hl], HE.out.1, by exact HE.out.2.1⟩

theorem pputForward (x0 : Int) (q : Option Addr) (n c : Nat) (gs : List (Int × Int)) (w : World) (hg : Prs w q n gs) (hn : n ≤ 1048576) (h00 : 0 ≤ x0) (h01 : x0 < 4294967296) : Calls Try.prog 34 #[.agg #[.int .u32 x0, .slice q n c]] w fun e w' => Puts w 192 0 (fwdB x0 gs) e w' := pputForward' x0 q n c gs w hg hn h00 h01

set_option maxRecDepth 100000 in
set_option maxHeartbeats 1600000 in
theorem pputSack' (x0 x1 : Int) (q : Option Addr) (n c : Nat) (gs : List (Int × Int)) (q' : Option Addr) (n' c' : Nat) (ds : List Int) (w : World) (hg : Prs w q n gs) (hd : Nums .u32 w q' n' ds) (hn : n ≤ 1048576) (hn' : n' ≤ 1048576) (h00 : 0 ≤ x0) (h01 : x0 < 4294967296) (h10 : 0 ≤ x1) (h11 : x1 < 4294967296) : Calls Try.prog 29 #[.agg #[.int .u32 x0, .int .u32 x1, .slice q n c, .slice q' n' c']] w fun e w' => Puts w (3) (0) ((enc (x0) 4 ++ enc (x1) 4) ++ (enc (n : Int) 2 ++ enc (n' : Int) 2) ++ pairsB gs ++ encs ds 4) e w' := by
  have HG0 := Lib.hid hg
  have HD0 := Lib.hid hd
  clear hg hd
  obtain ⟨wz, hwz⟩ : ∃ wz, w.alloc (.cells #[.int .u32 x0, .int .u32 x1, .slice q n c, .slice q' n' c'] 52) = wz := ⟨_, rfl⟩
  have hbz : Below w.heap.size w wz := by rw [← hwz]; exact (Below.refl _ _).alloc (Nat.le_refl _) _
  have hsz : wz.heap.size = w.heap.size + 1 := by rw [← hwz]; simp
  have hDz : Arr wz w.heap.size 52 [.int .u32 x0, .int .u32 x1, .slice q n c, .slice q' n' c'] := by rw [← hwz]; exact arr_new _ _ _
  obtain ⟨w0, hw0⟩ : ∃ w0, wz.alloc (.cells #[.int .u8 0, .int .u8 0, .slice none 0 0] 28) = w0 := ⟨_, rfl⟩
  have hb00 : Below wz.heap.size wz w0 := by rw [← hw0]; exact chunkBelow _ 0 0 _
  have hs0 : w0.heap.size = wz.heap.size + 1 := by rw [← hw0]; simp
  have hA0 : Arr w0 wz.heap.size 28 [.int .u8 0, .int .u8 0, .slice none 0 0] := by rw [← hw0]; exact chunkBox _ 0 0 _
  have HD := Lib.hid (hDz.keep hb00)
  have H0 := Lib.hid (And.intro (hbz.trans (hb00.mono hbz.size)) (And.intro hs0 (And.intro hA0 hbz.size)))
  have HS0 := Lib.hid (And.intro (Below.refl w0.heap.size w0) (Row8.nil w0.heap.size w0))
  have HLT := Lib.hid (show w.heap.size < w0.heap.size by omega)
  clear hbz hb00 hs0 hA0 hsz hDz
  go_enter Try.func29, Try.ntmps29
  have hDi := HD.out.below HS0.out.1 HLT.out
  have d0 := hDi.cell (i := 0) rfl
  have d1 := hDi.cell (i := 1) rfl
  have d2 := hDi.cell (i := 2) rfl
  have d3 := hDi.cell (i := 3) rfl
  clear hDi
  have hp := put2 w0.heap.size none (0) 0 4 ([]) (x0) (x1) w0 HS0.out.2 HS0.out.1.size (by omega) h00 (by omega) h10 (by omega) rfl
  try simp only [Nat.zero_add, List.nil_append, Nat.reduceMul, Nat.reduceAdd] at hp
  have HP1 := Lib.hid hp
  clear hp
  go_wp2_with fail
  refine HP1.out.mono ?_
  rintro e w1 ⟨a1, c1, rfl, hb1, hr1⟩
  clear d0 d1 d2 d3
  have HS1 := Lib.hid (And.intro (HS0.out.1.trans hb1) hr1)
  clear hb1 hr1 HP1 HS0
  have hDi := HD.out.below HS1.out.1 HLT.out
  have d0 := hDi.cell (i := 0) rfl
  have d1 := hDi.cell (i := 1) rfl
  have d2 := hDi.cell (i := 2) rfl
  have d3 := hDi.cell (i := 3) rfl
  clear hDi
  have hp := put2 w0.heap.size a1 (8) c1 2 ((enc (x0) 4 ++ enc (x1) 4)) (n : Int) (n' : Int) w1 HS1.out.2 HS1.out.1.size (by omega) (by omega) (by omega) (by omega) (by omega) rfl
  try simp only [Nat.zero_add, List.nil_append, Nat.reduceMul, Nat.reduceAdd] at hp
  have HP2 := Lib.hid hp
  clear hp
  go_wp2_with fail
  refine HP2.out.mono ?_
  rintro e w2 ⟨a2, c2, rfl, hb2, hr2⟩
  clear d0 d1 d2 d3
  have HS2 := Lib.hid (And.intro (HS1.out.1.trans hb2) hr2)
  clear hb2 hr2 HP2 HS1
  have hDi := HD.out.below HS2.out.1 HLT.out
  have d0 := hDi.cell (i := 0) rfl
  have d1 := hDi.cell (i := 1) rfl
  have d2 := hDi.cell (i := 2) rfl
  have d3 := hDi.cell (i := 3) rfl
  clear hDi
  go_wp2
  go_loopw [3, 30] (fun v ii wr => ∃ (j : Nat) (a2 : Option Addr) (c2 : Nat), j ≤ n ∧ ii = .int .i64 (j : Int) ∧ v = .slice a2 (12 + 4 * j) c2 ∧ Row8 w0.heap.size wr a2 (12 + 4 * j) c2 ((enc (x0) 4 ++ enc (x1) 4) ++ (enc (n : Int) 2 ++ enc (n' : Int) 2) ++ pairsB (gs.take j)) ∧ Below w0.heap.size w0 wr) (fun _ ii _ => n - (intOf ii).toNat)
  case atStart => exact ⟨0, _, _, Nat.zero_le _, rfl, rfl, by simpa [pairsB] using HS2.out.2, HS2.out.1⟩
  case round =>
    obtain ⟨j, a2, c2, hj, rfl, rfl, hrow, hbl⟩ := hrel
    have HS := Lib.hid (And.intro hbl hrow)
    clear hrow hbl HS2 d0 d1 d2 d3
    have hDi := HD.out.below HS.out.1 HLT.out
    have d0 := hDi.cell (i := 0) rfl
    have d1 := hDi.cell (i := 1) rfl
    have d2 := hDi.cell (i := 2) rfl
    have d3 := hDi.cell (i := 3) rfl
    clear hDi
    by_cases hjn : j < n
    · obtain ⟨p, hp⟩ : ∃ p, gs[j]? = some p := ⟨gs[j]'(by rw [HG0.out.1]; exact hjn), by simp [HG0.out.1, hjn]⟩
      have hin := HG0.out.2.1 p (List.mem_of_getElem? hp)
      obtain ⟨p0, p1, p2, p3⟩ := hin
      obtain ⟨gg, off, hq, hlt, e0, e1⟩ := (HG0.out.below H0.out.1 (Nat.le_refl _)).2.2 j p hp
      have e0' := (HS.out.1.cell (p := ⟨gg, off + j * 2, none⟩) hlt).trans e0
      have e1' := (HS.out.1.cell (p := ⟨gg, off + j * 2 + 1, none⟩) hlt).trans e1
      clear e0 e1
      obtain ⟨pa, pb⟩ := p
      simp only at p0 p1 p2 p3 e0' e1'
      have HPX := Lib.hid hp
      have HQ := Lib.hid hq
      clear hp
      subst hq
      clear HQ
      have hal : Below wr.heap.size wr (wr.alloc (.cells #[.int .u16 pa, .int .u16 pb] 79)) := (Below.refl _ _).alloc (Nat.le_refl _) _
      have hp := put2 w0.heap.size a2 (12 + 4 * j) c2 2 ((enc (x0) 4 ++ enc (x1) 4) ++ (enc (n : Int) 2 ++ enc (n' : Int) 2) ++ pairsB (gs.take j)) pa pb (wr.alloc (.cells #[.int .u16 pa, .int .u16 pb] 79)) (HS.out.2.keep hal) (Nat.le_trans HS.out.1.size hal.size) (by omega) p0 (by omega) p2 (by omega) rfl
      rw [show (wr.alloc (.cells #[.int .u16 pa, .int .u16 pb] 79)).heap.size = wr.heap.size + 1 from by simp] at hp
      simp only [Nat.reduceMul] at hp
      have HP := Lib.hid hp
      have HAL := Lib.hid (hal.mono HS.out.1.size)
      clear hp hal
      go_wp2_with fail
      refine HP.out.mono ?_
      rintro e w5 ⟨a5, c5, rfl, hb5, hr5⟩
      have HB5 := Lib.hid (HS.out.1.trans (HAL.out.trans hb5))
      have hr6 : Row8 w0.heap.size w5 a5 (12 + 4 * (j + 1)) c5 ((enc (x0) 4 ++ enc (x1) 4) ++ (enc (n : Int) 2 ++ enc (n' : Int) 2) ++ pairsB (gs.take (j + 1))) := by
        rw [pairsB_next HPX.out, ← List.append_assoc]
        have e : 12 + 4 * (j + 1) = 12 + 4 * j + 4 := by omega
        rw [e]
        exact hr5
      have HR6 := Lib.hid hr6
      have hln : 12 + 4 * j + 4 = 12 + 4 * (j + 1) := by omega
      rw [hln]
      clear hr5 hr6 hb5 HP HAL hln
      go_wp2
      exact ⟨⟨j + 1, a5, c5, by omega, congrArg (Value.int .i64) (by omega), rfl, HR6.out, HB5.out⟩, by simp [intOf]; omega⟩
    · obtain rfl : n = j := by omega
      have HS3 := Lib.hid (And.intro HS.out.1 (show Row8 w0.heap.size wr a2 (12 + 4 * n) c2 ((enc (x0) 4 ++ enc (x1) 4) ++ (enc (n : Int) 2 ++ enc (n' : Int) 2) ++ pairsB gs) from by have h := HS.out.2; rwa [List.take_of_length_le (by rw [HG0.out.1]; exact Nat.le_refl _)] at h))
      clear HS hj
      have hDi := HD.out.below HS3.out.1 HLT.out
      have d0 := hDi.cell (i := 0) rfl
      have d1 := hDi.cell (i := 1) rfl
      have d2 := hDi.cell (i := 2) rfl
      have d3 := hDi.cell (i := 3) rfl
      clear hDi
      go_wp2
      go_loopw [3, 47] (fun v ii wr => ∃ (j : Nat) (a2 : Option Addr) (c2 : Nat), j ≤ n' ∧ ii = .int .i64 (j : Int) ∧ v = .slice a2 (12 + 4 * n + 4 * j) c2 ∧ Row8 w0.heap.size wr a2 (12 + 4 * n + 4 * j) c2 ((enc (x0) 4 ++ enc (x1) 4) ++ (enc (n : Int) 2 ++ enc (n' : Int) 2) ++ pairsB gs ++ encs (ds.take j) 4) ∧ Below w0.heap.size w0 wr) (fun _ ii _ => n' - (intOf ii).toNat)
      case atStart => exact ⟨0, _, _, Nat.zero_le _, rfl, rfl, by simpa [encs] using HS3.out.2, HS3.out.1⟩
      case round =>
        obtain ⟨j, a2, c2, hj, rfl, rfl, hrow, hbl⟩ := hrel
        have HS := Lib.hid (And.intro hbl hrow)
        clear hrow hbl HS3 d0 d1 d2 d3
        have hDi := HD.out.below HS.out.1 HLT.out
        have d0 := hDi.cell (i := 0) rfl
        have d1 := hDi.cell (i := 1) rfl
        have d2 := hDi.cell (i := 2) rfl
        have d3 := hDi.cell (i := 3) rfl
        clear hDi
        by_cases hjn : j < n'
        · obtain ⟨x, hx⟩ : ∃ x, ds[j]? = some x := ⟨ds[j]'(by rw [HD0.out.1]; exact hjn), by simp [HD0.out.1, hjn]⟩
          have hwf := wf_u32_in (HD0.out.2.2.1 x (List.mem_of_getElem? hx))
          obtain ⟨p0, p1⟩ := hwf
          obtain ⟨gg, off, hq, hlt, e0⟩ := (HD0.out.below H0.out.1 (Nat.le_refl _)).2.2.2 j x hx
          have e0' := (HS.out.1.cell (p := ⟨gg, off + j, none⟩) hlt).trans e0
          clear e0
          have HXX := Lib.hid hx
          clear hx
          subst hq
          have hjz : (0 : Int) ≤ (j : Int) := by omega
          have hjm : (j : Int) < (n' : Int) := by omega
          have hp := put1 w0.heap.size a2 (12 + 4 * n + 4 * j) c2 4 ((enc (x0) 4 ++ enc (x1) 4) ++ (enc (n : Int) 2 ++ enc (n' : Int) 2) ++ pairsB gs ++ encs (ds.take j) 4) x wr HS.out.2 HS.out.1.size (by omega) p0 (by omega) rfl
          have HP := Lib.hid hp
          clear hp
          go_wp2_with fail
          refine HP.out.mono ?_
          rintro e w5 ⟨a5, c5, rfl, hb5, hr5⟩
          have HB5 := Lib.hid (HS.out.1.trans hb5)
          have hr6 : Row8 w0.heap.size w5 a5 (12 + 4 * n + 4 * (j + 1)) c5 ((enc (x0) 4 ++ enc (x1) 4) ++ (enc (n : Int) 2 ++ enc (n' : Int) 2) ++ pairsB gs ++ encs (ds.take (j + 1)) 4) := by
            rw [encs_next HXX.out, ← List.append_assoc]
            have e : 12 + 4 * n + 4 * (j + 1) = 12 + 4 * n + 4 * j + 4 := by omega
            rw [e]
            exact hr5
          have HR6 := Lib.hid hr6
          have hln : 12 + 4 * n + 4 * j + 4 = 12 + 4 * n + 4 * (j + 1) := by omega
          rw [hln]
          clear hr5 hr6 hb5 HP hln
          go_wp2
          exact ⟨⟨j + 1, a5, c5, by omega, congrArg (Value.int .i64) (by omega), rfl, HR6.out, HB5.out⟩, by simp [intOf]; omega⟩
        · obtain rfl : n' = j := by omega
          have HS4 := Lib.hid (And.intro HS.out.1 (show Row8 w0.heap.size wr a2 (12 + 4 * n + 4 * n') c2 ((enc (x0) 4 ++ enc (x1) 4) ++ (enc (n : Int) 2 ++ enc (n' : Int) 2) ++ pairsB gs ++ encs ds 4) from by have h := HS.out.2; rwa [List.take_of_length_le (by rw [HD0.out.1]; exact Nat.le_refl _)] at h))
          clear HS hj
          have hA := H0.out.2.2.1.below HS4.out.1 (by have := H0.out.2.1; omega)
          have fr0 := hA.free 0
          have fr1 := hA.free 1
          have fr2 := hA.free 2
          have y0 := hA.cell (i := 0) rfl
          have y1 := hA.cell (i := 1) rfl
          have y2 := hA.cell (i := 2) rfl
          obtain ⟨W3, hW3⟩ : ∃ W3, ((wr.setCell ⟨wz.heap.size, 0, none⟩ (.int .u8 (3))).setCell ⟨wz.heap.size, 1, none⟩ (.int .u8 (0))).setCell ⟨wz.heap.size, 2, none⟩ (.slice a2 (12 + 4 * n + 4 * n') c2) = W3 := ⟨_, rfl⟩
          have hE := puts_end (H0.out.1.trans (HS4.out.1.mono H0.out.1.size)) (H0.out.2.2.2) (by have := H0.out.2.1; omega) hA HS4.out.2 hW3
          have z0 := hE.2.2.cell (i := 0) rfl
          have z1 := hE.2.2.cell (i := 1) rfl
          have z2 := hE.2.2.cell (i := 2) rfl
          have HE := Lib.hid (And.intro hE.1 (And.intro hE.2.1 HS4.out.2.len))
          clear hE hA HS4 H0
          go_wp2
          have hl := HE.out.2.2
          skip
          exact bodyPost_ret (by simp [results, Try.results29, go_sem, z0, z1, z2]; rfl) rfl ⟨a2, c2, by rw [hl], HE.out.1, by exact HE.out.2.1⟩

theorem pputSack (x0 x1 : Int) (q : Option Addr) (n c : Nat) (gs : List (Int × Int)) (q' : Option Addr) (n' c' : Nat) (ds : List Int) (w : World) (hg : Prs w q n gs) (hd : Nums .u32 w q' n' ds) (hn : n ≤ 1048576) (hn' : n' ≤ 1048576) (h00 : 0 ≤ x0) (h01 : x0 < 4294967296) (h10 : 0 ≤ x1) (h11 : x1 < 4294967296) : Calls Try.prog 29 #[.agg #[.int .u32 x0, .int .u32 x1, .slice q n c, .slice q' n' c']] w fun e w' => Puts w 3 0 (sackB x0 x1 gs ds) e w' := by
  have h := pputSack' x0 x1 q n c gs q' n' c' ds w hg hd hn hn' h00 h01 h10 h11
  have e : (enc (x0) 4 ++ enc (x1) 4) ++ (enc (n : Int) 2 ++ enc (n' : Int) 2) ++ pairsB gs ++ encs ds 4 = sackB x0 x1 gs ds := by rw [show (n : Int) = (gs.length : Int) by rw [hg.1], show (n' : Int) = (ds.length : Int) by rw [hd.1]]; simp [sackB, List.append_assoc]
  rw [e] at h
  exact h

set_option maxRecDepth 100000 in
set_option maxHeartbeats 1600000 in
theorem rputForward' (x0 : Int) (q : Option Addr) (n c : Nat) (gs : List (Int × Int)) (w : World) (hg : Prs w q n gs) (hn : n ≤ 1048576) (h00 : 0 ≤ x0) (h01 : x0 < 4294967296) : Calls Try.prog 37 #[.agg #[.int .u32 x0, .slice q n c]] w fun e w' => Puts w (192) (0) (enc (x0) 4 ++ pairsB gs) e w' := by
  have HG0 := Lib.hid hg
  clear hg
  obtain ⟨wz, hwz⟩ : ∃ wz, w.alloc (.cells #[.int .u32 x0, .slice q n c] 56) = wz := ⟨_, rfl⟩
  have hbz : Below w.heap.size w wz := by rw [← hwz]; exact (Below.refl _ _).alloc (Nat.le_refl _) _
  have hsz : wz.heap.size = w.heap.size + 1 := by rw [← hwz]; simp
  have hDz : Arr wz w.heap.size 56 [.int .u32 x0, .slice q n c] := by rw [← hwz]; exact arr_new _ _ _
  obtain ⟨w0, hw0⟩ : ∃ w0, wz.alloc (.cells #[.int .u8 0, .int .u8 0, .slice none 0 0] 28) = w0 := ⟨_, rfl⟩
  have hb00 : Below wz.heap.size wz w0 := by rw [← hw0]; exact chunkBelow _ 0 0 _
  have hs0 : w0.heap.size = wz.heap.size + 1 := by rw [← hw0]; simp
  have hA0 : Arr w0 wz.heap.size 28 [.int .u8 0, .int .u8 0, .slice none 0 0] := by rw [← hw0]; exact chunkBox _ 0 0 _
  have HD := Lib.hid (hDz.keep hb00)
  have H0 := Lib.hid (And.intro (hbz.trans (hb00.mono hbz.size)) (And.intro hs0 (And.intro hA0 hbz.size)))
  have HS0 := Lib.hid (And.intro (Below.refl w0.heap.size w0) (Row8.nil w0.heap.size w0))
  have HLT := Lib.hid (show w.heap.size < w0.heap.size by omega)
  clear hbz hb00 hs0 hA0 hsz hDz
  go_enter Try.func37, Try.ntmps37
  have hDi := HD.out.below HS0.out.1 HLT.out
  have d0 := hDi.cell (i := 0) rfl
  have d1 := hDi.cell (i := 1) rfl
  clear hDi
  have hp := putR_yes none (0) 0 4 (x0) ([]) w0 HS0.out.2.reads (by omega) h00 rfl
  try simp only [Nat.zero_add, List.nil_append, Nat.reduceAdd] at hp
  have HP1 := Lib.hid hp
  clear hp
  go_wp2_with fail
  refine HP1.out.mono ?_
  rintro e w1 ⟨a1, c1, rfl, hb1, hr1⟩
  clear d0 d1
  have HS1 := Lib.hid (And.intro (HS0.out.1.trans (hb1.mono HS0.out.1.size)) (hr1.lower HS0.out.1.size))
  clear hb1 hr1 HP1 HS0
  have hDi := HD.out.below HS1.out.1 HLT.out
  have d0 := hDi.cell (i := 0) rfl
  have d1 := hDi.cell (i := 1) rfl
  clear hDi
  go_wp2
  go_loopw [3, 4] (fun v ii wr => ∃ (j : Nat) (a2 : Option Addr) (c2 : Nat), j ≤ n ∧ ii = .int .i64 (j : Int) ∧ v = .slice a2 (4 + 4 * j) c2 ∧ Row8 w0.heap.size wr a2 (4 + 4 * j) c2 (enc (x0) 4 ++ pairsB (gs.take j)) ∧ Below w0.heap.size w0 wr) (fun _ ii _ => n - (intOf ii).toNat)
  case atStart => exact ⟨0, _, _, Nat.zero_le _, rfl, rfl, by simpa [pairsB] using HS1.out.2, HS1.out.1⟩
  case round =>
    obtain ⟨j, a2, c2, hj, rfl, rfl, hrow, hbl⟩ := hrel
    have HS := Lib.hid (And.intro hbl hrow)
    clear hrow hbl HS1 d0 d1
    have hDi := HD.out.below HS.out.1 HLT.out
    have d0 := hDi.cell (i := 0) rfl
    have d1 := hDi.cell (i := 1) rfl
    clear hDi
    by_cases hjn : j < n
    · obtain ⟨p, hp⟩ : ∃ p, gs[j]? = some p := ⟨gs[j]'(by rw [HG0.out.1]; exact hjn), by simp [HG0.out.1, hjn]⟩
      have hin := HG0.out.2.1 p (List.mem_of_getElem? hp)
      obtain ⟨p0, p1, p2, p3⟩ := hin
      obtain ⟨gg, off, hq, hlt, e0, e1⟩ := (HG0.out.below H0.out.1 (Nat.le_refl _)).2.2 j p hp
      have e0' := (HS.out.1.cell (p := ⟨gg, off + j * 2, none⟩) hlt).trans e0
      have e1' := (HS.out.1.cell (p := ⟨gg, off + j * 2 + 1, none⟩) hlt).trans e1
      clear e0 e1
      obtain ⟨pa, pb⟩ := p
      simp only at p0 p1 p2 p3 e0' e1'
      have HPX := Lib.hid hp
      have HQ := Lib.hid hq
      clear hp
      subst hq
      clear HQ
      have hp := putR_yes a2 (4 + 4 * j) c2 2 pa (enc (x0) 4 ++ pairsB (gs.take j)) wr HS.out.2.reads (by omega) p0 rfl
      have HP := Lib.hid hp
      clear hp
      have hjz : (0 : Int) ≤ (j : Int) := by omega
      have hjm : (j : Int) < (n : Int) := by omega
      go_wp2_with fail
      refine HP.out.mono ?_
      rintro e w5 ⟨a5, c5, rfl, hb5, hr5⟩
      have HS5 := Lib.hid (And.intro (HS.out.1.trans (hb5.mono HS.out.1.size)) (hr5.lower HS.out.1.size))
      have f0' := (hb5.cell (p := ⟨gg, off + j * 2, none⟩) (Nat.lt_of_lt_of_le hlt HS.out.1.size)).trans e0'
      have f1' := (hb5.cell (p := ⟨gg, off + j * 2 + 1, none⟩) (Nat.lt_of_lt_of_le hlt HS.out.1.size)).trans e1'
      clear e0' e1' hb5 hr5 HP HS d0 d1
      have hp := putR_yes a5 (4 + 4 * j + 2) c5 2 pb _ w5 HS5.out.2.reads (by omega) p2 rfl
      have HP := Lib.hid hp
      clear hp
      have hDi := HD.out.below HS5.out.1 HLT.out
      have d0 := hDi.cell (i := 0) rfl
      have d1 := hDi.cell (i := 1) rfl
      clear hDi
      go_wp2_with fail
      refine HP.out.mono ?_
      rintro e w6 ⟨a6, c6, rfl, hb6, hr6⟩
      have HB6 := Lib.hid (HS5.out.1.trans (hb6.mono HS5.out.1.size))
      have hr7 : Row8 w0.heap.size w6 a6 (4 + 4 * (j + 1)) c6 (enc (x0) 4 ++ pairsB (gs.take (j + 1))) := by
        rw [pairsB_next HPX.out]
        have e : 4 + 4 * (j + 1) = 4 + 4 * j + 2 + 2 := by omega
        rw [e]
        have h := hr6.lower HS5.out.1.size
        simp only [List.append_assoc] at h ⊢
        exact h
      have HR7 := Lib.hid hr7
      have hln : 4 + 4 * j + 2 + 2 = 4 + 4 * (j + 1) := by omega
      rw [hln]
      clear hr6 hr7 hb6 HP HS5 hln
      go_wp2
      exact ⟨⟨j + 1, a6, c6, by omega, congrArg (Value.int .i64) (by omega), rfl, HR7.out, HB6.out⟩, by simp [intOf]; omega⟩
    · obtain rfl : n = j := by omega
      have HS2 := Lib.hid (And.intro HS.out.1 (show Row8 w0.heap.size wr a2 (4 + 4 * n) c2 (enc (x0) 4 ++ pairsB gs) from by have h := HS.out.2; rwa [List.take_of_length_le (by rw [HG0.out.1]; exact Nat.le_refl _)] at h))
      clear HS hj
      have hA := H0.out.2.2.1.below HS2.out.1 (by have := H0.out.2.1; omega)
      have fr0 := hA.free 0
      have fr1 := hA.free 1
      have fr2 := hA.free 2
      have y0 := hA.cell (i := 0) rfl
      have y1 := hA.cell (i := 1) rfl
      have y2 := hA.cell (i := 2) rfl
      obtain ⟨W3, hW3⟩ : ∃ W3, ((wr.setCell ⟨wz.heap.size, 0, none⟩ (.int .u8 (192))).setCell ⟨wz.heap.size, 1, none⟩ (.int .u8 (0))).setCell ⟨wz.heap.size, 2, none⟩ (.slice a2 (4 + 4 * n) c2) = W3 := ⟨_, rfl⟩
      have hE := puts_end (H0.out.1.trans (HS2.out.1.mono H0.out.1.size)) (H0.out.2.2.2) (by have := H0.out.2.1; omega) hA HS2.out.2 hW3
      have z0 := hE.2.2.cell (i := 0) rfl
      have z1 := hE.2.2.cell (i := 1) rfl
      have z2 := hE.2.2.cell (i := 2) rfl
      have HE := Lib.hid (And.intro hE.1 (And.intro hE.2.1 HS2.out.2.len))
      clear hE hA HS2 H0
      go_wp2
      have hl := HE.out.2.2
      skip
      exact bodyPost_ret (by simp [results, Try.results37, go_sem, z0, z1, z2]; rfl) rfl ⟨a2, c2, by rw [hl], HE.out.1, by exact HE.out.2.1⟩

theorem rputForward (x0 : Int) (q : Option Addr) (n c : Nat) (gs : List (Int × Int)) (w : World) (hg : Prs w q n gs) (hn : n ≤ 1048576) (h00 : 0 ≤ x0) (h01 : x0 < 4294967296) : Calls Try.prog 37 #[.agg #[.int .u32 x0, .slice q n c]] w fun e w' => Puts w 192 0 (fwdB x0 gs) e w' := rputForward' x0 q n c gs w hg hn h00 h01

set_option maxRecDepth 100000 in
set_option maxHeartbeats 1600000 in
theorem rputSack' (x0 x1 : Int) (q : Option Addr) (n c : Nat) (gs : List (Int × Int)) (q' : Option Addr) (n' c' : Nat) (ds : List Int) (w : World) (hg : Prs w q n gs) (hd : Nums .u32 w q' n' ds) (hn : n ≤ 1048576) (hn' : n' ≤ 1048576) (h00 : 0 ≤ x0) (h01 : x0 < 4294967296) (h10 : 0 ≤ x1) (h11 : x1 < 4294967296) : Calls Try.prog 32 #[.agg #[.int .u32 x0, .int .u32 x1, .slice q n c, .slice q' n' c']] w fun e w' => Puts w (3) (0) (enc (x0) 4 ++ enc (x1) 4 ++ enc (n : Int) 2 ++ enc (n' : Int) 2 ++ pairsB gs ++ encs ds 4) e w' := by
  have HG0 := Lib.hid hg
  have HD0 := Lib.hid hd
  clear hg hd
  obtain ⟨wz, hwz⟩ : ∃ wz, w.alloc (.cells #[.int .u32 x0, .int .u32 x1, .slice q n c, .slice q' n' c'] 52) = wz := ⟨_, rfl⟩
  have hbz : Below w.heap.size w wz := by rw [← hwz]; exact (Below.refl _ _).alloc (Nat.le_refl _) _
  have hsz : wz.heap.size = w.heap.size + 1 := by rw [← hwz]; simp
  have hDz : Arr wz w.heap.size 52 [.int .u32 x0, .int .u32 x1, .slice q n c, .slice q' n' c'] := by rw [← hwz]; exact arr_new _ _ _
  obtain ⟨w0, hw0⟩ : ∃ w0, wz.alloc (.cells #[.int .u8 0, .int .u8 0, .slice none 0 0] 28) = w0 := ⟨_, rfl⟩
  have hb00 : Below wz.heap.size wz w0 := by rw [← hw0]; exact chunkBelow _ 0 0 _
  have hs0 : w0.heap.size = wz.heap.size + 1 := by rw [← hw0]; simp
  have hA0 : Arr w0 wz.heap.size 28 [.int .u8 0, .int .u8 0, .slice none 0 0] := by rw [← hw0]; exact chunkBox _ 0 0 _
  have HD := Lib.hid (hDz.keep hb00)
  have H0 := Lib.hid (And.intro (hbz.trans (hb00.mono hbz.size)) (And.intro hs0 (And.intro hA0 hbz.size)))
  have HS0 := Lib.hid (And.intro (Below.refl w0.heap.size w0) (Row8.nil w0.heap.size w0))
  have HLT := Lib.hid (show w.heap.size < w0.heap.size by omega)
  clear hbz hb00 hs0 hA0 hsz hDz
  go_enter Try.func32, Try.ntmps32
  have hDi := HD.out.below HS0.out.1 HLT.out
  have d0 := hDi.cell (i := 0) rfl
  have d1 := hDi.cell (i := 1) rfl
  have d2 := hDi.cell (i := 2) rfl
  have d3 := hDi.cell (i := 3) rfl
  clear hDi
  have hp := putR_yes none (0) 0 4 (x0) ([]) w0 HS0.out.2.reads (by omega) h00 rfl
  try simp only [Nat.zero_add, List.nil_append, Nat.reduceAdd] at hp
  have HP1 := Lib.hid hp
  clear hp
  go_wp2_with fail
  refine HP1.out.mono ?_
  rintro e w1 ⟨a1, c1, rfl, hb1, hr1⟩
  clear d0 d1 d2 d3
  have HS1 := Lib.hid (And.intro (HS0.out.1.trans (hb1.mono HS0.out.1.size)) (hr1.lower HS0.out.1.size))
  clear hb1 hr1 HP1 HS0
  have hDi := HD.out.below HS1.out.1 HLT.out
  have d0 := hDi.cell (i := 0) rfl
  have d1 := hDi.cell (i := 1) rfl
  have d2 := hDi.cell (i := 2) rfl
  have d3 := hDi.cell (i := 3) rfl
  clear hDi
  have hp := putR_yes a1 (4) c1 4 (x1) (enc (x0) 4) w1 HS1.out.2.reads (by omega) h10 rfl
  try simp only [Nat.zero_add, List.nil_append, Nat.reduceAdd] at hp
  have HP2 := Lib.hid hp
  clear hp
  go_wp2_with fail
  refine HP2.out.mono ?_
  rintro e w2 ⟨a2, c2, rfl, hb2, hr2⟩
  clear d0 d1 d2 d3
  have HS2 := Lib.hid (And.intro (HS1.out.1.trans (hb2.mono HS1.out.1.size)) (hr2.lower HS1.out.1.size))
  clear hb2 hr2 HP2 HS1
  have hDi := HD.out.below HS2.out.1 HLT.out
  have d0 := hDi.cell (i := 0) rfl
  have d1 := hDi.cell (i := 1) rfl
  have d2 := hDi.cell (i := 2) rfl
  have d3 := hDi.cell (i := 3) rfl
  clear hDi
  have hp := putR_yes a2 (8) c2 2 (n : Int) (enc (x0) 4 ++ enc (x1) 4) w2 HS2.out.2.reads (by omega) (by omega) rfl
  try simp only [Nat.zero_add, List.nil_append, Nat.reduceAdd] at hp
  have HP3 := Lib.hid hp
  clear hp
  go_wp2_with fail
  refine HP3.out.mono ?_
  rintro e w3 ⟨a3, c3, rfl, hb3, hr3⟩
  clear d0 d1 d2 d3
  have HS3 := Lib.hid (And.intro (HS2.out.1.trans (hb3.mono HS2.out.1.size)) (hr3.lower HS2.out.1.size))
  clear hb3 hr3 HP3 HS2
  have hDi := HD.out.below HS3.out.1 HLT.out
  have d0 := hDi.cell (i := 0) rfl
  have d1 := hDi.cell (i := 1) rfl
  have d2 := hDi.cell (i := 2) rfl
  have d3 := hDi.cell (i := 3) rfl
  clear hDi
  have hp := putR_yes a3 (10) c3 2 (n' : Int) (enc (x0) 4 ++ enc (x1) 4 ++ enc (n : Int) 2) w3 HS3.out.2.reads (by omega) (by omega) rfl
  try simp only [Nat.zero_add, List.nil_append, Nat.reduceAdd] at hp
  have HP4 := Lib.hid hp
  clear hp
  go_wp2_with fail
  refine HP4.out.mono ?_
  rintro e w4 ⟨a4, c4, rfl, hb4, hr4⟩
  clear d0 d1 d2 d3
  have HS4 := Lib.hid (And.intro (HS3.out.1.trans (hb4.mono HS3.out.1.size)) (hr4.lower HS3.out.1.size))
  clear hb4 hr4 HP4 HS3
  have hDi := HD.out.below HS4.out.1 HLT.out
  have d0 := hDi.cell (i := 0) rfl
  have d1 := hDi.cell (i := 1) rfl
  have d2 := hDi.cell (i := 2) rfl
  have d3 := hDi.cell (i := 3) rfl
  clear hDi
  go_wp2
  go_loopw [3, 4] (fun v ii wr => ∃ (j : Nat) (a2 : Option Addr) (c2 : Nat), j ≤ n ∧ ii = .int .i64 (j : Int) ∧ v = .slice a2 (12 + 4 * j) c2 ∧ Row8 w0.heap.size wr a2 (12 + 4 * j) c2 (enc (x0) 4 ++ enc (x1) 4 ++ enc (n : Int) 2 ++ enc (n' : Int) 2 ++ pairsB (gs.take j)) ∧ Below w0.heap.size w0 wr) (fun _ ii _ => n - (intOf ii).toNat)
  case atStart => exact ⟨0, _, _, Nat.zero_le _, rfl, rfl, by simpa [pairsB] using HS4.out.2, HS4.out.1⟩
  case round =>
    obtain ⟨j, a2, c2, hj, rfl, rfl, hrow, hbl⟩ := hrel
    have HS := Lib.hid (And.intro hbl hrow)
    clear hrow hbl HS4 d0 d1 d2 d3
    have hDi := HD.out.below HS.out.1 HLT.out
    have d0 := hDi.cell (i := 0) rfl
    have d1 := hDi.cell (i := 1) rfl
    have d2 := hDi.cell (i := 2) rfl
    have d3 := hDi.cell (i := 3) rfl
    clear hDi
    by_cases hjn : j < n
    · obtain ⟨p, hp⟩ : ∃ p, gs[j]? = some p := ⟨gs[j]'(by rw [HG0.out.1]; exact hjn), by simp [HG0.out.1, hjn]⟩
      have hin := HG0.out.2.1 p (List.mem_of_getElem? hp)
      obtain ⟨p0, p1, p2, p3⟩ := hin
      obtain ⟨gg, off, hq, hlt, e0, e1⟩ := (HG0.out.below H0.out.1 (Nat.le_refl _)).2.2 j p hp
      have e0' := (HS.out.1.cell (p := ⟨gg, off + j * 2, none⟩) hlt).trans e0
      have e1' := (HS.out.1.cell (p := ⟨gg, off + j * 2 + 1, none⟩) hlt).trans e1
      clear e0 e1
      obtain ⟨pa, pb⟩ := p
      simp only at p0 p1 p2 p3 e0' e1'
      have HPX := Lib.hid hp
      have HQ := Lib.hid hq
      clear hp
      subst hq
      clear HQ
      have hp := putR_yes a2 (12 + 4 * j) c2 2 pa (enc (x0) 4 ++ enc (x1) 4 ++ enc (n : Int) 2 ++ enc (n' : Int) 2 ++ pairsB (gs.take j)) wr HS.out.2.reads (by omega) p0 rfl
      have HP := Lib.hid hp
      clear hp
      have hjz : (0 : Int) ≤ (j : Int) := by omega
      have hjm : (j : Int) < (n : Int) := by omega
      go_wp2_with fail
      refine HP.out.mono ?_
      rintro e w5 ⟨a5, c5, rfl, hb5, hr5⟩
      have HS5 := Lib.hid (And.intro (HS.out.1.trans (hb5.mono HS.out.1.size)) (hr5.lower HS.out.1.size))
      have f0' := (hb5.cell (p := ⟨gg, off + j * 2, none⟩) (Nat.lt_of_lt_of_le hlt HS.out.1.size)).trans e0'
      have f1' := (hb5.cell (p := ⟨gg, off + j * 2 + 1, none⟩) (Nat.lt_of_lt_of_le hlt HS.out.1.size)).trans e1'
      clear e0' e1' hb5 hr5 HP HS d0 d1 d2 d3
      have hp := putR_yes a5 (12 + 4 * j + 2) c5 2 pb _ w5 HS5.out.2.reads (by omega) p2 rfl
      have HP := Lib.hid hp
      clear hp
      have hDi := HD.out.below HS5.out.1 HLT.out
      have d0 := hDi.cell (i := 0) rfl
      have d1 := hDi.cell (i := 1) rfl
      have d2 := hDi.cell (i := 2) rfl
      have d3 := hDi.cell (i := 3) rfl
      clear hDi
      go_wp2_with fail
      refine HP.out.mono ?_
      rintro e w6 ⟨a6, c6, rfl, hb6, hr6⟩
      have HB6 := Lib.hid (HS5.out.1.trans (hb6.mono HS5.out.1.size))
      have hr7 : Row8 w0.heap.size w6 a6 (12 + 4 * (j + 1)) c6 (enc (x0) 4 ++ enc (x1) 4 ++ enc (n : Int) 2 ++ enc (n' : Int) 2 ++ pairsB (gs.take (j + 1))) := by
        rw [pairsB_next HPX.out]
        have e : 12 + 4 * (j + 1) = 12 + 4 * j + 2 + 2 := by omega
        rw [e]
        have h := hr6.lower HS5.out.1.size
        simp only [List.append_assoc] at h ⊢
        exact h
      have HR7 := Lib.hid hr7
      have hln : 12 + 4 * j + 2 + 2 = 12 + 4 * (j + 1) := by omega
      rw [hln]
      clear hr6 hr7 hb6 HP HS5 hln
      go_wp2
      exact ⟨⟨j + 1, a6, c6, by omega, congrArg (Value.int .i64) (by omega), rfl, HR7.out, HB6.out⟩, by simp [intOf]; omega⟩
    · obtain rfl : n = j := by omega
      have HS5 := Lib.hid (And.intro HS.out.1 (show Row8 w0.heap.size wr a2 (12 + 4 * n) c2 (enc (x0) 4 ++ enc (x1) 4 ++ enc (n : Int) 2 ++ enc (n' : Int) 2 ++ pairsB gs) from by have h := HS.out.2; rwa [List.take_of_length_le (by rw [HG0.out.1]; exact Nat.le_refl _)] at h))
      clear HS hj
      have hDi := HD.out.below HS5.out.1 HLT.out
      have d0 := hDi.cell (i := 0) rfl
      have d1 := hDi.cell (i := 1) rfl
      have d2 := hDi.cell (i := 2) rfl
      have d3 := hDi.cell (i := 3) rfl
      clear hDi
      go_wp2
      go_loopw [3, 5] (fun v ii wr => ∃ (j : Nat) (a2 : Option Addr) (c2 : Nat), j ≤ n' ∧ ii = .int .i64 (j : Int) ∧ v = .slice a2 (12 + 4 * n + 4 * j) c2 ∧ Row8 w0.heap.size wr a2 (12 + 4 * n + 4 * j) c2 (enc (x0) 4 ++ enc (x1) 4 ++ enc (n : Int) 2 ++ enc (n' : Int) 2 ++ pairsB gs ++ encs (ds.take j) 4) ∧ Below w0.heap.size w0 wr) (fun _ ii _ => n' - (intOf ii).toNat)
      case atStart => exact ⟨0, _, _, Nat.zero_le _, rfl, rfl, by simpa [encs] using HS5.out.2, HS5.out.1⟩
      case round =>
        obtain ⟨j, a2, c2, hj, rfl, rfl, hrow, hbl⟩ := hrel
        have HS := Lib.hid (And.intro hbl hrow)
        clear hrow hbl HS5 d0 d1 d2 d3
        have hDi := HD.out.below HS.out.1 HLT.out
        have d0 := hDi.cell (i := 0) rfl
        have d1 := hDi.cell (i := 1) rfl
        have d2 := hDi.cell (i := 2) rfl
        have d3 := hDi.cell (i := 3) rfl
        clear hDi
        by_cases hjn : j < n'
        · obtain ⟨x, hx⟩ : ∃ x, ds[j]? = some x := ⟨ds[j]'(by rw [HD0.out.1]; exact hjn), by simp [HD0.out.1, hjn]⟩
          have hwf := wf_u32_in (HD0.out.2.2.1 x (List.mem_of_getElem? hx))
          obtain ⟨p0, p1⟩ := hwf
          obtain ⟨gg, off, hq, hlt, e0⟩ := (HD0.out.below H0.out.1 (Nat.le_refl _)).2.2.2 j x hx
          have e0' := (HS.out.1.cell (p := ⟨gg, off + j, none⟩) hlt).trans e0
          clear e0
          have HXX := Lib.hid hx
          clear hx
          subst hq
          have hjz : (0 : Int) ≤ (j : Int) := by omega
          have hjm : (j : Int) < (n' : Int) := by omega
          have hp := putR_yes a2 (12 + 4 * n + 4 * j) c2 4 x (enc (x0) 4 ++ enc (x1) 4 ++ enc (n : Int) 2 ++ enc (n' : Int) 2 ++ pairsB gs ++ encs (ds.take j) 4) wr HS.out.2.reads (by omega) p0 rfl
          have HP := Lib.hid hp
          clear hp
          go_wp2_with fail
          refine HP.out.mono ?_
          rintro e w5 ⟨a5, c5, rfl, hb5, hr5⟩
          have HB5 := Lib.hid (HS.out.1.trans (hb5.mono HS.out.1.size))
          have hr6 : Row8 w0.heap.size w5 a5 (12 + 4 * n + 4 * (j + 1)) c5 (enc (x0) 4 ++ enc (x1) 4 ++ enc (n : Int) 2 ++ enc (n' : Int) 2 ++ pairsB gs ++ encs (ds.take (j + 1)) 4) := by
            rw [encs_next HXX.out, ← List.append_assoc]
            have e : 12 + 4 * n + 4 * (j + 1) = 12 + 4 * n + 4 * j + 4 := by omega
            rw [e]
            exact hr5.lower HS.out.1.size
          have HR6 := Lib.hid hr6
          have hln : 12 + 4 * n + 4 * j + 4 = 12 + 4 * n + 4 * (j + 1) := by omega
          rw [hln]
          clear hr5 hr6 hb5 HP hln
          go_wp2
          exact ⟨⟨j + 1, a5, c5, by omega, congrArg (Value.int .i64) (by omega), rfl, HR6.out, HB5.out⟩, by simp [intOf]; omega⟩
        · obtain rfl : n' = j := by omega
          have HS6 := Lib.hid (And.intro HS.out.1 (show Row8 w0.heap.size wr a2 (12 + 4 * n + 4 * n') c2 (enc (x0) 4 ++ enc (x1) 4 ++ enc (n : Int) 2 ++ enc (n' : Int) 2 ++ pairsB gs ++ encs ds 4) from by have h := HS.out.2; rwa [List.take_of_length_le (by rw [HD0.out.1]; exact Nat.le_refl _)] at h))
          clear HS hj
          have hA := H0.out.2.2.1.below HS6.out.1 (by have := H0.out.2.1; omega)
          have fr0 := hA.free 0
          have fr1 := hA.free 1
          have fr2 := hA.free 2
          have y0 := hA.cell (i := 0) rfl
          have y1 := hA.cell (i := 1) rfl
          have y2 := hA.cell (i := 2) rfl
          obtain ⟨W3, hW3⟩ : ∃ W3, ((wr.setCell ⟨wz.heap.size, 0, none⟩ (.int .u8 (3))).setCell ⟨wz.heap.size, 1, none⟩ (.int .u8 (0))).setCell ⟨wz.heap.size, 2, none⟩ (.slice a2 (12 + 4 * n + 4 * n') c2) = W3 := ⟨_, rfl⟩
          have hE := puts_end (H0.out.1.trans (HS6.out.1.mono H0.out.1.size)) (H0.out.2.2.2) (by have := H0.out.2.1; omega) hA HS6.out.2 hW3
          have z0 := hE.2.2.cell (i := 0) rfl
          have z1 := hE.2.2.cell (i := 1) rfl
          have z2 := hE.2.2.cell (i := 2) rfl
          have HE := Lib.hid (And.intro hE.1 (And.intro hE.2.1 HS6.out.2.len))
          clear hE hA HS6 H0
          go_wp2
          have hl := HE.out.2.2
          skip
          exact bodyPost_ret (by simp [results, Try.results32, go_sem, z0, z1, z2]; rfl) rfl ⟨a2, c2, by rw [hl], HE.out.1, by exact HE.out.2.1⟩

theorem rputSack (x0 x1 : Int) (q : Option Addr) (n c : Nat) (gs : List (Int × Int)) (q' : Option Addr) (n' c' : Nat) (ds : List Int) (w : World) (hg : Prs w q n gs) (hd : Nums .u32 w q' n' ds) (hn : n ≤ 1048576) (hn' : n' ≤ 1048576) (h00 : 0 ≤ x0) (h01 : x0 < 4294967296) (h10 : 0 ≤ x1) (h11 : x1 < 4294967296) : Calls Try.prog 32 #[.agg #[.int .u32 x0, .int .u32 x1, .slice q n c, .slice q' n' c']] w fun e w' => Puts w 3 0 (sackB x0 x1 gs ds) e w' := by
  have h := rputSack' x0 x1 q n c gs q' n' c' ds w hg hd hn hn' h00 h01 h10 h11
  have e : enc (x0) 4 ++ enc (x1) 4 ++ enc (n : Int) 2 ++ enc (n' : Int) 2 ++ pairsB gs ++ encs ds 4 = sackB x0 x1 gs ds := by rw [show (n : Int) = (gs.length : Int) by rw [hg.1], show (n' : Int) = (ds.length : Int) by rw [hd.1]]; simp [sackB, List.append_assoc]
  rw [e] at h
  exact h

end Go.Proofs.Ytlihcckgnnnekaa
