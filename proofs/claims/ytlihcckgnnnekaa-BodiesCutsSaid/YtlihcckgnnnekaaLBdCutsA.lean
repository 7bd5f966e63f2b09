import Derived.Test.YtlihcckgnnnekaaBdOne
import Derived.Test.YtlihcckgnnnekaaBdGot
import Derived.Test.YtlihcckgnnnekaaCutRun
import Derived.Deep.DeepCutAuto
import Derived.BigQuiet
import Derived.Deep.QuietTactic
/-
  Stage 9: what the Get functions read from the bytes that the Put functions make. Program apart, but for the contracts at the end.
-/
namespace Go.Proofs.Ytlihcckgnnnekaa
open Go.RowKit
set_option linter.unusedVariables false

theorem bits_of (u f l : Bool) : bitB (dflags u f l) 4 = u ∧ bitB (dflags u f l) 2 = f ∧ bitB (dflags u f l) 1 = l := by
  cases u <;> cases f <;> cases l <;> exact ⟨rfl, rfl, rfl⟩
-- data
theorem dataB_nums {x0 x1 x2 : Int} (bs : List Int) (h00 : 0 ≤ x0) (h01 : x0 < 4294967296) (h10 : 0 ≤ x1) (h11 : x1 < 65536) (h20 : 0 ≤ x2) (h21 : x2 < 65536) :
    natAt (dataB x0 x1 x2 bs) 0 4 = x0 ∧ natAt (dataB x0 x1 x2 bs) 4 2 = x1 ∧ natAt (dataB x0 x1 x2 bs) 6 2 = x2 ∧ (dataB x0 x1 x2 bs).drop 12 = bs := by
  refine ⟨?_, ?_, ?_, ?_⟩
  · exact natAt_at (a := []) (b := enc x1 2 ++ enc x2 2 ++ enc 0 4 ++ bs) (m := 4294967296) h00 (by decide) h01 (by simp [dataB, List.append_assoc]) rfl
  · exact natAt_at (a := enc x0 4) (b := enc x2 2 ++ enc 0 4 ++ bs) (m := 65536) h10 (by decide) h11 (by simp [dataB, List.append_assoc]) (by simp)
  · exact natAt_at (a := enc x0 4 ++ enc x1 2) (b := enc 0 4 ++ bs) (m := 65536) h20 (by decide) h21 (by simp [dataB, List.append_assoc]) (by simp)
  · unfold dataB; exact List.drop_left' (by simp)
theorem okData_put {x0 x1 x2 : Int} (u f l : Bool) (bs : List Int) (h00 : 0 ≤ x0) (h01 : x0 < 4294967296) (h10 : 0 ≤ x1) (h11 : x1 < 65536) (h20 : 0 ≤ x2) (h21 : x2 < 65536) :
    okData 0 (dflags u f l) (dataB x0 x1 x2 bs) = decide (0 < bs.length) := by
  obtain ⟨e0, e1, e2, e3⟩ := dataB_nums bs h00 h01 h10 h11 h20 h21
  obtain ⟨b0, b1, b2⟩ := bits_of u f l
  unfold okData
  rw [e0, e1, e2, e3, b0, b1, b2, eqC_refl, Bool.and_true]
  congr 1
  simp only [dataB_len, eq_iff_iff]
  omega
-- init
theorem initH_nums {x0 x1 x2 x3 x4 : Int} (b : List Int) (h00 : 0 ≤ x0) (h01 : x0 < 4294967296) (h10 : 0 ≤ x1) (h11 : x1 < 4294967296) (h20 : 0 ≤ x2) (h21 : x2 < 65536) (h30 : 0 ≤ x3) (h31 : x3 < 65536) (h40 : 0 ≤ x4) (h41 : x4 < 4294967296) {c : List Int} (e : c = initH x0 x1 x2 x3 x4 ++ b) :
    natAt c 0 4 = x0 ∧ natAt c 4 4 = x1 ∧ natAt c 8 2 = x2 ∧ natAt c 10 2 = x3 ∧ natAt c 12 4 = x4 := by
  subst e
  refine ⟨?_, ?_, ?_, ?_, ?_⟩
  · exact natAt_at (a := []) (b := enc x1 4 ++ enc x2 2 ++ enc x3 2 ++ enc x4 4 ++ b) (m := 4294967296) h00 (by decide) h01 (by simp [initH, List.append_assoc]) rfl
  · exact natAt_at (a := enc x0 4) (b := enc x2 2 ++ enc x3 2 ++ enc x4 4 ++ b) (m := 4294967296) h10 (by decide) h11 (by simp [initH, List.append_assoc]) (by simp)
  · exact natAt_at (a := enc x0 4 ++ enc x1 4) (b := enc x3 2 ++ enc x4 4 ++ b) (m := 65536) h20 (by decide) h21 (by simp [initH, List.append_assoc]) (by simp)
  · exact natAt_at (a := enc x0 4 ++ enc x1 4 ++ enc x2 2) (b := enc x4 4 ++ b) (m := 65536) h30 (by decide) h31 (by simp [initH, List.append_assoc]) (by simp)
  · exact natAt_at (a := enc x0 4 ++ enc x1 4 ++ enc x2 2 ++ enc x3 2) (b := b) (m := 4294967296) h40 (by decide) h41 (by simp [initH, List.append_assoc]) (by simp)
theorem initA_eq (x0 x1 x2 x3 x4 : Int) (ck : List Int) : ∃ pad, initA x0 x1 x2 x3 x4 ck = initH x0 x1 x2 x3 x4 ++ (enc 7 2 ++ (enc (4 + (ck.length : Int)) 2 ++ (ck ++ pad))) := by
  unfold initA pad4
  exact ⟨_, by simp only [List.append_assoc]; rfl⟩
theorem initA_ck {x0 x1 x2 x3 x4 : Int} (ck : List Int) (hl : ck.length ≤ 60000) : natAt (initA x0 x1 x2 x3 x4 ck) 18 2 = 4 + (ck.length : Int) ∧ ckOf (initA x0 x1 x2 x3 x4 ck) (4 + (ck.length : Int)) = ck := by
  obtain ⟨pad, e⟩ := initA_eq x0 x1 x2 x3 x4 ck
  rw [e]
  constructor
  · exact natAt_at (a := initH x0 x1 x2 x3 x4 ++ enc 7 2) (b := ck ++ pad) (m := 65536) (by omega) (by decide) (by omega) (by simp only [List.append_assoc]) (by simp [initH_len])
  · unfold ckOf
    rw [if_pos ⟨by omega, by simp [initH_len]; omega⟩, show (4 + (ck.length : Int) - 4).toNat = ck.length by omega, show initH x0 x1 x2 x3 x4 ++ (enc 7 2 ++ (enc (4 + (ck.length : Int)) 2 ++ (ck ++ pad))) = (initH x0 x1 x2 x3 x4 ++ (enc 7 2 ++ enc (4 + (ck.length : Int)) 2)) ++ (ck ++ pad) by simp only [List.append_assoc],
      List.drop_left' (by simp [initH_len]), List.take_left' rfl]
/-- What is read from a beginning's body. -/
theorem initB_nums (k : Int) {x0 x1 x2 x3 x4 : Int} (ck : List Int) (hl : ck.length ≤ 60000) (h00 : 0 ≤ x0) (h01 : x0 < 4294967296) (h10 : 0 ≤ x1) (h11 : x1 < 4294967296) (h20 : 0 ≤ x2) (h21 : x2 < 65536) (h30 : 0 ≤ x3) (h31 : x3 < 65536) (h40 : 0 ≤ x4) (h41 : x4 < 4294967296) :
    natAt (initB k x0 x1 x2 x3 x4 ck) 0 4 = x0 ∧ natAt (initB k x0 x1 x2 x3 x4 ck) 4 4 = x1 ∧ natAt (initB k x0 x1 x2 x3 x4 ck) 8 2 = x2 ∧ natAt (initB k x0 x1 x2 x3 x4 ck) 10 2 = x3 ∧ natAt (initB k x0 x1 x2 x3 x4 ck) 12 4 = x4 ∧ ckK k (initB k x0 x1 x2 x3 x4 ck) = if k = 2 then ck else [] := by
  unfold initB ckK
  by_cases hk : k = 2
  · simp only [if_pos hk]
    obtain ⟨pad, e⟩ := initA_eq x0 x1 x2 x3 x4 ck
    obtain ⟨a1, a2⟩ := initA_ck (x0 := x0) (x1 := x1) (x2 := x2) (x3 := x3) (x4 := x4) ck hl
    obtain ⟨e0, e1, e2, e3, e4⟩ := initH_nums _ h00 h01 h10 h11 h20 h21 h30 h31 h40 h41 e
    exact ⟨e0, e1, e2, e3, e4, by rw [a1, a2]⟩
  · simp only [if_neg hk]
    obtain ⟨e0, e1, e2, e3, e4⟩ := initH_nums [] h00 h01 h10 h11 h20 h21 h30 h31 h40 h41 (List.append_nil _).symm
    exact ⟨e0, e1, e2, e3, e4, trivial⟩
theorem okInit_put (k : Int) {x0 x1 x2 x3 x4 : Int} (ck : List Int) (hl : ck.length ≤ 60000) (h00 : 0 ≤ x0) (h01 : x0 < 4294967296) (h10 : 0 ≤ x1) (h11 : x1 < 4294967296) (h20 : 0 ≤ x2) (h21 : x2 < 65536) (h30 : 0 ≤ x3) (h31 : x3 < 65536) (h40 : 0 ≤ x4) (h41 : x4 < 4294967296) :
    okInit k 0 (initB k x0 x1 x2 x3 x4 ck) = initOk k x0 x2 x3 (if k = 2 then ck else []).length := by
  obtain ⟨e0, e1, e2, e3, e4, e5⟩ := initB_nums k ck hl h00 h01 h10 h11 h20 h21 h30 h31 h40 h41
  unfold okInit initBk
  rw [e5, e0, e1, e2, e3, e4]
  have e : initB k x0 x1 x2 x3 x4 (if k = 2 then ck else []) = initB k x0 x1 x2 x3 x4 ck := by
    unfold initB
    split <;> rfl
  rw [e, eqC_refl, Bool.and_true]
-- pairs, numbers
theorem pairsB_app (ps qs : List (Int × Int)) : pairsB (ps ++ qs) = pairsB ps ++ pairsB qs := by simp [pairsB]
theorem encs_app (xs ys : List Int) (n : Nat) : encs (xs ++ ys) n = encs xs n ++ encs ys n := by simp [encs]
theorem split_at {α : Type} {xs : List α} {i : Nat} {x : α} (h : xs[i]? = some x) : xs = xs.take i ++ ([x] ++ xs.drop (i + 1)) := by
  have hi := (List.getElem?_eq_some_iff.1 h).1
  have e := (List.getElem?_eq_some_iff.1 h).2
  conv => lhs; rw [← List.take_append_drop i xs, List.drop_eq_getElem_cons hi, e]
  rfl
theorem pairsAt_put {ps : List (Int × Int)} (h : ∀ p ∈ ps, InP p) {a b c : List Int} (e : c = a ++ pairsB ps ++ b) {s : Nat} (hs : s = a.length) : pairsAt c s ps.length = ps := by
  subst hs
  refine List.ext_getElem (pairsAt_len _ _ _) fun i h1 h2 => ?_
  have hp : ps[i]? = some ps[i] := by simp [h2]
  generalize ps[i] = p at hp
  obtain ⟨q0, q1, q2, q3⟩ := h p (List.mem_of_getElem? hp)
  have e2 : c = a ++ pairsB (ps.take i) ++ enc p.1 2 ++ (enc p.2 2 ++ pairsB (ps.drop (i + 1)) ++ b) := by
    rw [e]
    conv => lhs; rw [split_at hp, pairsB_app, pairsB_app]
    simp [pairsB, List.append_assoc]
  have hl : (pairsB (ps.take i)).length = 4 * i := by rw [pairsB_len, List.length_take, Nat.min_eq_left (by omega)]
  have n1 : natAt c (a.length + 4 * i) 2 = p.1 := natAt_at (m := 65536) q0 (by decide) q1 e2 (by rw [List.length_append, hl])
  have n2 : natAt c (a.length + 4 * i + 2) 2 = p.2 := natAt_at (a := a ++ pairsB (ps.take i) ++ enc p.1 2) (b := pairsB (ps.drop (i + 1)) ++ b) (m := 65536) q2 (by decide) q3 (by rw [e2]; simp only [List.append_assoc]) (by simp [hl]; omega)
  simp [pairsAt, n1, n2]
theorem numsAt_put {xs : List Int} (h : ∀ x ∈ xs, 0 ≤ x ∧ x < 4294967296) {a b c : List Int} (e : c = a ++ encs xs 4 ++ b) {s : Nat} (hs : s = a.length) : numsAt c s xs.length = xs := by
  subst hs
  refine List.ext_getElem (numsAt_len _ _ _) fun i h1 h2 => ?_
  have hp : xs[i]? = some xs[i] := by simp [h2]
  generalize xs[i] = p at hp
  obtain ⟨q0, q1⟩ := h p (List.mem_of_getElem? hp)
  have e2 : c = a ++ encs (xs.take i) 4 ++ enc p 4 ++ (encs (xs.drop (i + 1)) 4 ++ b) := by
    rw [e]
    conv => lhs; rw [split_at hp, encs_app, encs_app, encs_one]
    simp only [List.append_assoc]
  have hl : (encs (xs.take i) 4).length = 4 * i := by rw [encs_len, List.length_take, Nat.min_eq_left (by omega)]
  have n1 : natAt c (a.length + 4 * i) 4 = p := natAt_at (m := 4294967296) q0 (by decide) q1 e2 (by rw [List.length_append, hl])
  simp [numsAt, n1]
-- an acknowledgement
theorem sackB_nums {x0 x1 : Int} {gs : List (Int × Int)} {ds : List Int} (h00 : 0 ≤ x0) (h01 : x0 < 4294967296) (h10 : 0 ≤ x1) (h11 : x1 < 4294967296) (hg : ∀ p ∈ gs, InP p) (hd : ∀ x ∈ ds, 0 ≤ x ∧ x < 4294967296) (hgl : gs.length < 65536) (hdl : ds.length < 65536) :
    natAt (sackB x0 x1 gs ds) 0 4 = x0 ∧ natAt (sackB x0 x1 gs ds) 4 4 = x1 ∧ sackG (sackB x0 x1 gs ds) = gs ∧ sackD (sackB x0 x1 gs ds) = ds := by
  have e8 : natAt (sackB x0 x1 gs ds) 8 2 = (gs.length : Int) := natAt_at (a := enc x0 4 ++ enc x1 4) (b := enc (ds.length : Int) 2 ++ pairsB gs ++ encs ds 4) (m := 65536) (by omega) (by decide) (by omega) (by unfold sackB; simp only [List.append_assoc]) (by simp)
  have hE : sackE (sackB x0 x1 gs ds) = 12 + 4 * gs.length := by unfold sackE; rw [e8]; rfl
  have hl := sackB_len x0 x1 gs ds
  refine ⟨?_, ?_, ?_, ?_⟩
  · exact natAt_at (a := []) (b := enc x1 4 ++ enc (gs.length : Int) 2 ++ enc (ds.length : Int) 2 ++ pairsB gs ++ encs ds 4) (m := 4294967296) h00 (by decide) h01 (by simp [sackB, List.append_assoc]) rfl
  · exact natAt_at (a := enc x0 4) (b := enc (gs.length : Int) 2 ++ enc (ds.length : Int) 2 ++ pairsB gs ++ encs ds 4) (m := 4294967296) h10 (by decide) h11 (by simp [sackB, List.append_assoc]) (by simp)
  · unfold sackG
    rw [hE, hl, show (min (12 + 4 * gs.length) (12 + 4 * gs.length + 4 * ds.length) - 12 + 3) / 4 = gs.length by omega]
    exact pairsAt_put hg (a := enc x0 4 ++ enc x1 4 ++ enc (gs.length : Int) 2 ++ enc (ds.length : Int) 2) (b := encs ds 4) (by unfold sackB; simp only [List.append_assoc]) (by simp)
  · unfold sackD
    rw [hE, hl, show (12 + 4 * gs.length + 4 * ds.length - (12 + 4 * gs.length) + 3) / 4 = ds.length by omega]
    exact numsAt_put hd (a := enc x0 4 ++ enc x1 4 ++ enc (gs.length : Int) 2 ++ enc (ds.length : Int) 2 ++ pairsB gs) (b := []) (by unfold sackB; simp only [List.append_assoc, List.append_nil]) (by simp [pairsB_len]; omega)
theorem okSack_put {x0 x1 : Int} {gs : List (Int × Int)} {ds : List Int} (h00 : 0 ≤ x0) (h01 : x0 < 4294967296) (h10 : 0 ≤ x1) (h11 : x1 < 4294967296) (hg : ∀ p ∈ gs, InP p) (hd : ∀ x ∈ ds, 0 ≤ x ∧ x < 4294967296) (hgl : gs.length < 65536) (hdl : ds.length < 65536) :
    okSack 3 0 (sackB x0 x1 gs ds) = apartF 0 gs := by
  obtain ⟨e0, e1, e2, e3⟩ := sackB_nums h00 h01 h10 h11 hg hd hgl hdl
  unfold okSack
  rw [e0, e1, e2, e3, eqC_refl, Bool.and_true]
-- what will not come
theorem fwdB_nums {x0 : Int} {fs : List (Int × Int)} (h00 : 0 ≤ x0) (h01 : x0 < 4294967296) (hf : ∀ p ∈ fs, InP p) :
    natAt (fwdB x0 fs) 0 4 = x0 ∧ pairsAt (fwdB x0 fs) 4 (((fwdB x0 fs).length - 4 + 3) / 4) = fs := by
  refine ⟨natAt_at (a := []) (b := pairsB fs) (m := 4294967296) h00 (by decide) h01 (by simp [fwdB]) rfl, ?_⟩
  rw [fwdB_len, show (4 + 4 * fs.length - 4 + 3) / 4 = fs.length by omega]
  exact pairsAt_put hf (a := enc x0 4) (b := []) (by simp [fwdB]) (by simp)
theorem okFwd_put {x0 : Int} {fs : List (Int × Int)} (h00 : 0 ≤ x0) (h01 : x0 < 4294967296) (hf : ∀ p ∈ fs, InP p) : okFwd 192 0 (fwdB x0 fs) = true := by
  obtain ⟨e0, e1⟩ := fwdB_nums h00 h01 hf
  unfold okFwd
  rw [e0, e1]
  exact eqC_mk ⟨rfl, rfl, rfl⟩
-- time, number
theorem timeB_val {x : Int} (h0 : -9223372036854775808 ≤ x) (h1 : x < 9223372036854775808) : timeV (timeB x) = x := by
  have e : natAt (timeB x) 4 8 = x % 18446744073709551616 := by
    have hx := Int.emod_nonneg x (show (18446744073709551616 : Int) ≠ 0 by decide)
    have hy := Int.emod_lt_of_pos x (show (0 : Int) < 18446744073709551616 by decide)
    exact natAt_at (a := enc 1 2 ++ enc 12 2) (b := []) (m := 18446744073709551616) hx (by decide) hy (by unfold timeB; rw [enc_mod (by decide), List.append_nil]) (by simp)
  unfold timeV
  rw [e]
  show wrap64 _ = _
  unfold wrap64
  omega
theorem okTime_put {k x : Int} (hk : k = 4 ∨ k = 5) (h0 : -9223372036854775808 ≤ x) (h1 : x < 9223372036854775808) : okTime k 0 (timeB x) = true := by
  unfold okTime
  rw [timeB_val h0 h1, eqC_refl, Bool.and_true]
  rcases hk with rfl | rfl <;> rfl
theorem cumB_val {x : Int} (h0 : 0 ≤ x) (h1 : x < 4294967296) : natAt (enc x 4) 0 4 = x := natAt_at (a := []) (b := []) (m := 4294967296) h0 (by decide) h1 (by simp) rfl
theorem okCum_put {x : Int} (h0 : 0 ≤ x) (h1 : x < 4294967296) : okCum 7 0 (enc x 4) = true := by
  unfold okCum
  rw [cumB_val h0 h1]
  exact eqC_mk ⟨rfl, rfl, rfl⟩
-- got as it was put
theorem backData (d0 d1 d2 : Int) (d3 d4 d5 : Bool) (a : Option Addr) (L c : Nat) (dz : List Int) (w : World) (hr : Reads w a L (dataB d0 d1 d2 dz)) (hc : L ≤ c) (hz : Byt dz) (hn : dz.length ≤ 8192) (h00 : 0 ≤ d0) (h01 : d0 < 4294967296) (h10 : 0 ≤ d1) (h11 : d1 < 65536) (h20 : 0 ≤ d2) (h21 : d2 < 65536) :
    Calls Try.prog 16 #[.agg #[.int .u8 0, .int .u8 (dflags d3 d4 d5), .slice a L c]] w fun e w' =>
      ∃ g0 g1 g2 g3 g4 g5 a1 gl c1 er, e = .returned (.tuple #[.agg #[.int .u32 g0, .int .u16 g1, .int .u16 g2, .bool g3, .bool g4, .bool g5, .slice a1 gl c1], .int .i64 er]) ∧ Below w.heap.size w w' ∧
        (0 < dz.length → (g0 = d0 ∧ g1 = d1 ∧ g2 = d2 ∧ g3 = d3 ∧ g4 = d4 ∧ g5 = d5) ∧ gl = dz.length ∧ er = 0 ∧ Reads w' a1 dz.length dz) ∧ (dz.length = 0 → er = 7) := by
  have hL : (dataB d0 d1 d2 dz).length = L := hr.1
  have hl := dataB_len d0 d1 d2 dz
  obtain ⟨e0, e1, e2, e3⟩ := dataB_nums dz h00 h01 h10 h11 h20 h21
  obtain ⟨b0, b1, b2⟩ := bits_of d3 d4 d5
  refine (pgetData 0 (dflags d3 d4 d5) a L c _ w hr (dataB_byt _ _ _ hz) hc (by omega)).mono ?_
  rintro e w' ⟨a1, c1, h1, h2, h3⟩
  rw [okData_put d3 d4 d5 dz h00 h01 h10 h11 h20 h21] at h1
  rw [e3, hl, Nat.add_sub_cancel_left] at h3
  unfold dataV at h1
  rw [e0, e1, e2, b0, b1, b2, hl, Nat.add_sub_cancel_left] at h1
  rcases h1 with ⟨hb, rfl⟩ | ⟨hb, rfl⟩
  · have hp : 0 < dz.length := of_decide_eq_true hb
    exact ⟨_, _, _, _, _, _, _, _, _, _, rfl, h2, fun _ => ⟨⟨rfl, rfl, rfl, rfl, rfl, rfl⟩, rfl, rfl, h3.reads⟩, fun h => by omega⟩
  · have hp : ¬ 0 < dz.length := of_decide_eq_false hb
    exact ⟨_, _, _, _, _, _, _, _, _, _, rfl, h2, fun h => (by omega), fun _ => rfl⟩
theorem backInit (k i0 i1 i2 i3 i4 : Int) (a : Option Addr) (L c : Nat) (iz : List Int) (w : World) (hr : Reads w a L (initB k i0 i1 i2 i3 i4 iz)) (hc : L ≤ c) (hz : Byt iz) (hn : iz.length ≤ 8192) (hk : k = 2 ∨ iz = []) (h00 : 0 ≤ i0) (h01 : i0 < 4294967296) (h10 : 0 ≤ i1) (h11 : i1 < 4294967296) (h20 : 0 ≤ i2) (h21 : i2 < 65536) (h30 : 0 ≤ i3) (h31 : i3 < 65536) (h40 : 0 ≤ i4) (h41 : i4 < 4294967296) :
    Calls Try.prog 24 #[.agg #[.int .u8 k, .int .u8 0, .slice a L c]] w fun e w' =>
      ∃ g0 g1 g2 g3 g4 a1 gl c1 er, e = .returned (.tuple #[.agg #[.int .u32 g0, .int .u32 g1, .int .u16 g2, .int .u16 g3, .int .u32 g4, .slice a1 gl c1], .int .i64 er]) ∧ Below w.heap.size w w' ∧
        (initOk k i0 i2 i3 iz.length = true → (g0 = i0 ∧ g1 = i1 ∧ g2 = i2 ∧ g3 = i3 ∧ g4 = i4) ∧ gl = iz.length ∧ er = 0 ∧ Reads w' a1 iz.length iz) ∧ (initOk k i0 i2 i3 iz.length = false → er = 7) := by
  have hL : (initB k i0 i1 i2 i3 i4 iz).length = L := hr.1
  have hl := initB_len k i0 i1 i2 i3 i4 iz
  obtain ⟨e0, e1, e2, e3, e4, e5⟩ := initB_nums k iz (by omega) h00 h01 h10 h11 h20 h21 h30 h31 h40 h41
  have hck : (if k = 2 then iz else []) = iz := by
    rcases hk with h | h
    · rw [if_pos h]
    · rw [h]; split <;> rfl
  rw [hck] at e5
  refine (pgetInit k 0 a L c _ w hr (initB_byt _ _ _ _ _ _ hz) hc (by omega)).mono ?_
  rintro e w' ⟨a1, c1, h1, h2, h3⟩
  rw [okInit_put k iz (by omega) h00 h01 h10 h11 h20 h21 h30 h31 h40 h41, hck] at h1
  rw [e5] at h1 h3
  unfold initV at h1
  rw [e0, e1, e2, e3, e4] at h1
  rcases h1 with ⟨hb, rfl⟩ | ⟨hb, rfl⟩
  · exact ⟨_, _, _, _, _, _, _, _, _, rfl, h2, fun _ => ⟨⟨rfl, rfl, rfl, rfl, rfl⟩, rfl, rfl, h3.reads⟩, fun h => by rw [hb] at h; cases h⟩
  · exact ⟨_, _, _, _, _, _, _, _, _, rfl, h2, fun h => (by rw [hb] at h; cases h), fun _ => rfl⟩
theorem nums_in {w : World} {a : Option Addr} {n : Nat} {ds : List Int} (h : Nums .u32 w a n ds) : ∀ x ∈ ds, 0 ≤ x ∧ x < 4294967296 := fun x hx => by have := wf_u32_in (h.2.2.1 x hx); omega
theorem backSack (s0 s1 : Int) (a : Option Addr) (L c : Nat) (gs : List (Int × Int)) (ds : List Int) (w : World) (hr : Reads w a L (sackB s0 s1 gs ds)) (hc : L ≤ c) (hg : ∀ p ∈ gs, InP p) (hd : ∀ x ∈ ds, 0 ≤ x ∧ x < 4294967296) (hgn : gs.length ≤ 2048) (hdn : ds.length ≤ 2048) (h00 : 0 ≤ s0) (h01 : s0 < 4294967296) (h10 : 0 ≤ s1) (h11 : s1 < 4294967296) :
    Calls Try.prog 30 #[.agg #[.int .u8 3, .int .u8 0, .slice a L c]] w fun e w' =>
      ∃ g0 g1 a1 m1 c1 a2 m2 c2 er, e = .returned (.tuple #[.agg #[.int .u32 g0, .int .u32 g1, .slice a1 m1 c1, .slice a2 m2 c2], .int .i64 er]) ∧ Below w.heap.size w w' ∧
        (apartF 0 gs = true → (g0 = s0 ∧ g1 = s1) ∧ m1 = gs.length ∧ m2 = ds.length ∧ er = 0 ∧ Prs w' a1 gs.length gs ∧ Nums .u32 w' a2 ds.length ds) ∧ (apartF 0 gs = false → er = 7) := by
  have hL : (sackB s0 s1 gs ds).length = L := hr.1
  have hl := sackB_len s0 s1 gs ds
  obtain ⟨e0, e1, e2, e3⟩ := sackB_nums h00 h01 h10 h11 hg hd (by omega) (by omega)
  refine (pgetSack 3 0 a L c _ w hr (sackB_byt _ _ _ _) hc (by omega)).mono ?_
  rintro e w' ⟨a1, c1, a2, c2, h1, h2, h3, h4⟩
  rw [okSack_put h00 h01 h10 h11 hg hd (by omega) (by omega), e0, e1, e2, e3] at h1
  rw [e2] at h3
  rw [e3] at h4
  rcases h1 with ⟨hb, rfl⟩ | ⟨hb, rfl⟩
  · exact ⟨_, _, _, _, _, _, _, _, _, rfl, h2, fun _ => ⟨⟨rfl, rfl⟩, rfl, rfl, rfl, h3, h4⟩, fun h => by rw [hb] at h; cases h⟩
  · exact ⟨_, _, _, _, _, _, _, _, _, rfl, h2, fun h => (by rw [hb] at h; cases h), fun _ => rfl⟩
theorem backForward (f0 : Int) (a : Option Addr) (L c : Nat) (fs : List (Int × Int)) (w : World) (hr : Reads w a L (fwdB f0 fs)) (hc : L ≤ c) (hf : ∀ p ∈ fs, InP p) (hn : fs.length ≤ 2048) (h00 : 0 ≤ f0) (h01 : f0 < 4294967296) :
    Calls Try.prog 35 #[.agg #[.int .u8 192, .int .u8 0, .slice a L c]] w fun e w' =>
      ∃ a1 c1, e = .returned (.tuple #[.agg #[.int .u32 f0, .slice a1 fs.length c1], .int .i64 0]) ∧ Below w.heap.size w w' ∧ Prs w' a1 fs.length fs := by
  have hL : (fwdB f0 fs).length = L := hr.1
  have hl := fwdB_len f0 fs
  obtain ⟨e0, e1⟩ := fwdB_nums h00 h01 hf
  refine (pgetForward 192 0 a L c _ w hr (fwdB_byt _ _) hc (by omega)).mono ?_
  rintro e w' ⟨a1, c1, h1, h2, h3⟩
  rw [okFwd_put h00 h01 hf, e0, e1] at h1
  rw [e1] at h3
  rcases h1 with ⟨_, h1⟩ | ⟨hb, _⟩
  · exact ⟨a1, c1, h1, h2, h3⟩
  · cases hb
theorem backTime (k x : Int) (hk : k = 4 ∨ k = 5) (h0 : -9223372036854775808 ≤ x) (h1 : x < 9223372036854775808) (a : Option Addr) (L c : Nat) (w : World) (hr : Reads w a L (timeB x)) (hc : L ≤ c) :
    Calls Try.prog 39 #[.agg #[.int .u8 k, .int .u8 0, .slice a L c]] w fun e w' => e = .returned (.tuple #[.int .i64 x, .int .i64 0]) ∧ Below w.heap.size w w' := by
  have hL : (timeB x).length = L := hr.1
  have hl : (timeB x).length = 12 := by simp [timeB]
  refine (pgetTime k 0 a L c _ w hr (((enc_byt _ _).append (enc_byt _ _)).append (enc_byt _ _)) hc (by omega)).mono ?_
  rintro e w' ⟨h2, h3⟩
  rw [okTime_put hk h0 h1, timeB_val h0 h1] at h2
  rcases h2 with ⟨_, h2⟩ | ⟨hb, _⟩
  · exact ⟨h2, h3⟩
  · cases hb
theorem backCum (x : Int) (h0 : 0 ≤ x) (h1 : x < 4294967296) (a : Option Addr) (L c : Nat) (w : World) (hr : Reads w a L (enc x 4)) (hc : L ≤ c) :
    Calls Try.prog 41 #[.agg #[.int .u8 7, .int .u8 0, .slice a L c]] w fun e w' => e = .returned (.tuple #[.int .u32 x, .int .i64 0]) ∧ Below w.heap.size w w' := by
  have hL : (enc x 4).length = L := hr.1
  have hl : (enc x 4).length = 4 := by simp
  refine (pgetCum 7 0 a L c _ w hr (enc_byt _ _) hc (by omega)).mono ?_
  rintro e w' ⟨h2, h3⟩
  rw [okCum_put h0 h1, cumB_val h0 h1] at h2
  rcases h2 with ⟨_, h2⟩ | ⟨hb, _⟩
  · exact ⟨h2, h3⟩
  · cases hb
-- are the gaps apart, as the law reckons it
def apStep (gs : List (Int × Int)) (k : Nat) : Bool := match gs[k]? with
  | none => true
  | some p => decide (p.1 ≤ p.2) && decide (2 ≤ p.1) && (decide (k = 0) || decide (((gs[k - 1]?).getD (0, 0)).2 + 1 < p.1))
/-- The first k gaps: each from 2 on, not backwards, apart from the one ahead. -/
def apK (gs : List (Int × Int)) : Nat → Bool
  | 0 => true
  | k + 1 => apK gs k && apStep gs k
theorem apK_succ (gs : List (Int × Int)) (k : Nat) : apK gs (k + 1) = (apK gs k && apStep gs k) := rfl
/-- The end of the gap ahead. -/
def lastK (gs : List (Int × Int)) (k : Nat) : Int := if k = 0 then 0 else ((gs[k - 1]?).getD (0, 0)).2
theorem apK_drop {gs : List (Int × Int)} (hin : ∀ p ∈ gs, InP p) : ∀ (j k : Nat), k + j = gs.length → (apK gs k && apartF (lastK gs k) (gs.drop k)) = apK gs gs.length := by
  intro j
  induction j with
  | zero =>
    intro k hk
    obtain rfl : k = gs.length := by omega
    rw [List.drop_length]
    simp [apartF]
  | succ j ih =>
    intro k hk
    have hlt : k < gs.length := by omega
    have hp : gs[k]? = some gs[k] := by simp [hlt]
    generalize gs[k] = p at hp
    rw [← ih (k + 1) (by omega), apartF_step hp, apK_succ, Bool.and_assoc]
    have hl : lastK gs (k + 1) = p.2 := by unfold lastK; rw [if_neg (by omega), Nat.add_sub_cancel, hp]; rfl
    rw [hl]
    have hs : apStep gs k = (!decide (p.1 < lastK gs k + 2) && !decide (p.2 < p.1)) := by
      unfold apStep lastK
      rw [hp]
      simp only
      by_cases h0 : k = 0
      · rw [if_pos h0, Bool.eq_iff_iff]
        simp [h0]
        omega
      · rw [if_neg h0]
        obtain ⟨q, hq⟩ : ∃ q, gs[k - 1]? = some q := ⟨gs[k - 1]'(by omega), by simp [show k - 1 < gs.length by omega]⟩
        have hi := hin q (List.mem_of_getElem? hq)
        unfold InP at hi
        rw [hq, Bool.eq_iff_iff]
        simp [h0]
        omega
    rw [hs, Bool.and_assoc]
theorem apK_all {gs : List (Int × Int)} (hin : ∀ p ∈ gs, InP p) : apK gs gs.length = apartF 0 gs := by
  have h := apK_drop hin gs.length 0 (by omega)
  rw [← h]
  simp [apK, lastK]
end Go.Proofs.Ytlihcckgnnnekaa

/-
  Stage 9: 'many', alone (a claim's size is bounded).
-/
namespace Go.Proofs.Ytlihcckgnnnekaa
open Go.RowKit
set_option linter.unusedVariables false

set_option maxRecDepth 100000 in
set_option maxHeartbeats 1600000 in
theorem many_any (s0 s1 : Int) (sa : Option Addr) (sn sk : Nat) (sb : Option Addr) (sm sl : Nat) (f0 : Int) (fa : Option Addr) (fn' fk : Nat) (w : World) :
    Calls Try.prog 28 #[.agg #[.int .u32 s0, .int .u32 s1, .slice sa sn sk, .slice sb sm sl], .agg #[.int .u32 f0, .slice fa fn' fk]] w fun e w' => e = .returned (.bool (decide (2048 < sn ∨ 2048 < sm ∨ 2048 < fn'))) ∧ Below w.heap.size w w' := by
  obtain ⟨w0, hw0⟩ : ∃ w0, w.alloc (.cells #[.int .u32 s0, .int .u32 s1, .slice sa sn sk, .slice sb sm sl] 52) = w0 := ⟨_, rfl⟩
  have hb0 : Below w.heap.size w w0 := by rw [← hw0]; exact (Below.refl _ _).alloc (Nat.le_refl _) _
  have hs0 : w0.heap.size = w.heap.size + 1 := by rw [← hw0]; simp
  have ha0 : Arr w0 w.heap.size 52 [.int .u32 s0, .int .u32 s1, .slice sa sn sk, .slice sb sm sl] := by rw [← hw0]; exact arr_new _ _ _
  obtain ⟨w1, hw1⟩ : ∃ w1, w0.alloc (.cells #[.int .u32 f0, .slice fa fn' fk] 56) = w1 := ⟨_, rfl⟩
  have hb1 : Below w0.heap.size w0 w1 := by rw [← hw1]; exact (Below.refl _ _).alloc (Nat.le_refl _) _
  have hk1 : Arr w1 (w.heap.size + 1) 56 [.int .u32 f0, .slice fa fn' fk] := by rw [← hw1, ← hs0]; exact arr_new _ _ _
  have ha1 := ha0.keep hb1
  have c2 := ha1.cell (i := 2) rfl
  have c3 := ha1.cell (i := 3) rfl
  have d1 := hk1.cell (i := 1) rfl
  have HB := Lib.hid (hb0.trans (hb1.mono hb0.size))
  clear hb0 hb1 ha0 ha1 hk1
  by_cases h1 : 2048 < sn
  · have g1 : (2048 : Int) < sn := by omega
    rw [decide_eq_true (by omega)]
    clear h1
    go_enter Try.func28, Try.ntmps28
    go_wp2; go_ret; exact ⟨rfl, HB.out⟩
  have g1 : ¬ (2048 : Int) < sn := by omega
  by_cases h2 : 2048 < sm
  · have g2 : (2048 : Int) < sm := by omega
    rw [decide_eq_true (by omega)]
    clear h1 h2
    go_enter Try.func28, Try.ntmps28
    go_wp2; go_ret; exact ⟨rfl, HB.out⟩
  have g2 : ¬ (2048 : Int) < sm := by omega
  by_cases h3 : 2048 < fn'
  · have g3 : (2048 : Int) < fn' := by omega
    rw [decide_eq_true (by omega)]
    clear h1 h2 h3
    go_enter Try.func28, Try.ntmps28
    go_wp2; go_ret; exact ⟨rfl, HB.out⟩
  have g3 : ¬ (2048 : Int) < fn' := by omega
  rw [decide_eq_false (by omega)]
  clear h1 h2 h3
  go_enter Try.func28, Try.ntmps28
  go_wp2; go_ret; exact ⟨rfl, HB.out⟩

end Go.Proofs.Ytlihcckgnnnekaa

/-
  Stage 9: chunks whose body is cut, or that have a flag more: by what they are taken. Plain facts.
-/
namespace Go.Proofs.Ytlihcckgnnnekaa
open Go.RowKit
set_option linter.unusedVariables false

theorem natAt_take {zs : List Int} {i n kk : Nat} (h : i + n ≤ kk) (hk : kk ≤ zs.length) : natAt (zs.take kk) i n = natAt zs i n := by
  unfold natAt
  rw [if_pos (by rw [List.length_take]; omega), if_pos (by omega), List.drop_take, List.take_take, Nat.min_eq_left (by omega)]

/-- Is the body whole, as the statement reckons it? -/
def wholeB (K : Int) (L kk : Nat) : Bool := if K = 192 then decide (4 ≤ kk) && decide (kk % 4 = 0) else decide (kk = L)
/-- What is so of a chunk of this kind without flags. -/
structure CutOk (K : Int) (zs : List Int) : Prop where
  cut : ∀ kk, kk ≤ zs.length → okAny K 0 (zs.take kk) = true → wholeB K zs.length kk = true
  whole : ∀ kk, kk ≤ zs.length → wholeB K zs.length kk = true → okAny K 0 (zs.take kk) = okAny K 0 zs
  flag : ∀ f, f ≠ 0 → okAny K f zs = false

theorem okAny_flag {k f : Int} (zs : List Int) (hk : k ≠ 0) (hf : f ≠ 0) : okAny k f zs = false := by
  cases h : okAny k f zs with
  | false => rfl
  | true =>
    exfalso
    unfold okAny at h
    simp only [Bool.or_eq_true] at h
    rcases h with ((((h | h) | h) | h) | h) | h
    · exact hk (okData_eq h).1
    · exact hf (okInit_eq h).2.1
    · exact hf (okSack_eq h).2.1
    · exact hf (okFwd_eq h).2.1
    · exact hf (okTime_eq h).2.1
    · exact hf (okCum_eq h).2.1
/-- A kind that takes just its own length. -/
theorem cutOk_of {K : Int} {zs : List Int} (h0 : K ≠ 0) (h1 : K ≠ 192) (h : ∀ kk, kk ≤ zs.length → okAny K 0 (zs.take kk) = true → kk = zs.length) : CutOk K zs := by
  refine ⟨fun kk hk ho => ?_, fun kk hk hw => ?_, fun f hf => okAny_flag zs h0 hf⟩
  · unfold wholeB; rw [if_neg h1]; exact decide_eq_true (h kk hk ho)
  · unfold wholeB at hw
    rw [if_neg h1] at hw
    have e : kk = zs.length := of_decide_eq_true hw
    rw [e, List.take_length]
theorem okAny_time {zs : List Int} (h : okAny 4 0 zs = true) : zs.length = 12 := by
  unfold okAny at h
  simp only [Bool.or_eq_true] at h
  rcases h with ((((h | h) | h) | h) | h) | h
  · have := (okData_eq h).1; omega
  · have := okInit_kind h; omega
  · have := (okSack_eq h).1; omega
  · have := (okFwd_eq h).1; omega
  · have e := (okTime_eq h).2.2
    rw [e]; simp [timeB]
  · have := (okCum_eq h).1; omega
theorem okAny_cum {zs : List Int} (h : okAny 7 0 zs = true) : zs.length = 4 := by
  unfold okAny at h
  simp only [Bool.or_eq_true] at h
  rcases h with ((((h | h) | h) | h) | h) | h
  · have := (okData_eq h).1; omega
  · have := okInit_kind h; omega
  · have := (okSack_eq h).1; omega
  · have := (okFwd_eq h).1; omega
  · have := okTime_kind h; omega
  · have e := (okCum_eq h).2.2
    rw [e]; simp
theorem okAny_fwd {zs : List Int} (h : okAny 192 0 zs = true) : okFwd 192 0 zs = true := by
  unfold okAny at h
  simp only [Bool.or_eq_true] at h
  rcases h with ((((h | h) | h) | h) | h) | h
  · have := (okData_eq h).1; omega
  · have := okInit_kind h; omega
  · have := (okSack_eq h).1; omega
  · exact h
  · have := okTime_kind h; omega
  · have := (okCum_eq h).1; omega
theorem okAny_sack {zs : List Int} (h : okAny 3 0 zs = true) : okSack 3 0 zs = true := by
  unfold okAny at h
  simp only [Bool.or_eq_true] at h
  rcases h with ((((h | h) | h) | h) | h) | h
  · have := (okData_eq h).1; omega
  · have := okInit_kind h; omega
  · exact h
  · have := (okFwd_eq h).1; omega
  · have := okTime_kind h; omega
  · have := (okCum_eq h).1; omega
theorem okAny_init {zs : List Int} (h : okAny 2 0 zs = true) : okInit 2 0 zs = true := by
  unfold okAny at h
  simp only [Bool.or_eq_true] at h
  rcases h with ((((h | h) | h) | h) | h) | h
  · have := (okData_eq h).1; omega
  · exact h
  · have := (okSack_eq h).1; omega
  · have := (okFwd_eq h).1; omega
  · have := okTime_kind h; omega
  · have := (okCum_eq h).1; omega

theorem cut_time (x : Int) : CutOk 4 (timeB x) := by
  refine cutOk_of (by decide) (by decide) fun kk hk ho => ?_
  have h := okAny_time ho
  have hl : (timeB x).length = 12 := by simp [timeB]
  rw [List.length_take] at h
  omega
theorem cut_cum (x : Int) : CutOk 7 (enc x 4) := by
  refine cutOk_of (by decide) (by decide) fun kk hk ho => ?_
  have h := okAny_cum ho
  have hl : (enc x 4).length = 4 := by simp
  rw [List.length_take] at h
  omega
theorem pairsB_take (ps : List (Int × Int)) (j : Nat) (hj : j ≤ ps.length) : (pairsB ps).take (4 * j) = pairsB (ps.take j) := by
  have e : pairsB ps = pairsB (ps.take j) ++ pairsB (ps.drop j) := by rw [← pairsB_app, List.take_append_drop]
  rw [e]
  exact List.take_left' (by rw [pairsB_len, List.length_take, Nat.min_eq_left hj])
theorem cut_fwd {x0 : Int} {fs : List (Int × Int)} (h00 : 0 ≤ x0) (h01 : x0 < 4294967296) (hf : ∀ p ∈ fs, InP p) : CutOk 192 (fwdB x0 fs) := by
  have hl := fwdB_len x0 fs
  have any : ∀ {zs}, okFwd 192 0 zs = true → okAny 192 0 zs = true := fun h => by unfold okAny; simp [h]
  refine ⟨fun kk hk ho => ?_, fun kk hk hw => ?_, fun f hf => okAny_flag _ (by decide) hf⟩
  · have h := (okFwd_eq (okAny_fwd ho)).2.2
    have h2 := congrArg List.length h
    rw [fwdB_len, List.length_take, Nat.min_eq_left hk] at h2
    unfold wholeB
    rw [if_pos rfl, decide_eq_true (by omega), decide_eq_true (by omega)]
    rfl
  · unfold wholeB at hw
    rw [if_pos rfl, Bool.and_eq_true] at hw
    have h1 : 4 ≤ kk := of_decide_eq_true hw.1
    have h2 : kk % 4 = 0 := of_decide_eq_true hw.2
    obtain ⟨j, rfl⟩ : ∃ j, kk = 4 + 4 * j := ⟨(kk - 4) / 4, by omega⟩
    have e : (fwdB x0 fs).take (4 + 4 * j) = fwdB x0 (fs.take j) := by
      unfold fwdB
      rw [List.take_append, List.take_of_length_le (by simp), show 4 + 4 * j - (enc x0 4).length = 4 * j by simp, pairsB_take _ _ (by omega)]
    rw [e, any (okFwd_put h00 h01 (fun p hp => hf p (List.mem_of_mem_take hp))), any (okFwd_put h00 h01 hf)]
theorem cut_sack {x0 x1 : Int} {gs : List (Int × Int)} {ds : List Int} (hgl : gs.length ≤ 2048) (hdl : ds.length ≤ 2048) : CutOk 3 (sackB x0 x1 gs ds) := by
  have hl := sackB_len x0 x1 gs ds
  have n8 : ∀ (y0 y1 : Int) (hs : List (Int × Int)) (es : List Int), hs.length < 65536 → natAt (sackB y0 y1 hs es) 8 2 = (hs.length : Int) := fun y0 y1 hs es h => natAt_at (a := enc y0 4 ++ enc y1 4) (b := enc (es.length : Int) 2 ++ pairsB hs ++ encs es 4) (m := 65536) (by omega) (by decide) (by omega) (by unfold sackB; simp only [List.append_assoc]) (by simp)
  have n10 : ∀ (y0 y1 : Int) (hs : List (Int × Int)) (es : List Int), es.length < 65536 → natAt (sackB y0 y1 hs es) 10 2 = (es.length : Int) := fun y0 y1 hs es h => natAt_at (a := enc y0 4 ++ enc y1 4 ++ enc (hs.length : Int) 2) (b := pairsB hs ++ encs es 4) (m := 65536) (by omega) (by decide) (by omega) (by unfold sackB; simp only [List.append_assoc]) (by simp)
  refine cutOk_of (by decide) (by decide) fun kk hk ho => ?_
  have h := (okSack_eq (okAny_sack ho)).2.2
  have hlen : ((sackB x0 x1 gs ds).take kk).length = kk := by rw [List.length_take, Nat.min_eq_left hk]
  generalize natAt ((sackB x0 x1 gs ds).take kk) 0 4 = y0 at h
  generalize natAt ((sackB x0 x1 gs ds).take kk) 4 4 = y1 at h
  generalize sackG ((sackB x0 x1 gs ds).take kk) = G at h
  generalize sackD ((sackB x0 x1 gs ds).take kk) = E at h
  have h2 := congrArg List.length h
  rw [sackB_len, hlen] at h2
  have a8 := n8 y0 y1 G E (by omega)
  have a10 := n10 y0 y1 G E (by omega)
  rw [← h, natAt_take (by omega) hk, n8 _ _ _ _ (by omega)] at a8
  rw [← h, natAt_take (by omega) hk, n10 _ _ _ _ (by omega)] at a10
  omega
theorem cut_init {x0 x1 x2 x3 x4 : Int} {ck : List Int} (hc : ck.length ≤ 60000) : CutOk 2 (initB 2 x0 x1 x2 x3 x4 ck) := by
  have e0 : initB 2 x0 x1 x2 x3 x4 ck = initA x0 x1 x2 x3 x4 ck := by unfold initB; rw [if_pos rfl]
  rw [e0]
  have hl := initA_len x0 x1 x2 x3 x4 ck
  refine cutOk_of (by decide) (by decide) fun kk hk ho => ?_
  have hi := okAny_init ho
  have h := (okInit_eq hi).2.2
  have hlen : ((initA x0 x1 x2 x3 x4 ck).take kk).length = kk := by rw [List.length_take, Nat.min_eq_left hk]
  unfold initBk initB at h
  rw [if_pos rfl] at h
  have h2 := congrArg List.length h
  rw [initA_len, hlen] at h2
  have h20 := up4_ge (20 + (ckK 2 ((initA x0 x1 x2 x3 x4 ck).take kk)).length)
  have hn : natAt ((initA x0 x1 x2 x3 x4 ck).take kk) 18 2 = 4 + (ck.length : Int) := by
    rw [natAt_take (by omega) hk]
    exact (initA_ck ck hc).1
  have hp : 0 < (ckK 2 ((initA x0 x1 x2 x3 x4 ck).take kk)).length := by
    unfold okInit initOk at hi
    simp only [Bool.and_eq_true, Bool.or_eq_true, decide_eq_true_eq] at hi
    rcases hi.1.2.2.2 with h | h
    · omega
    · exact h.2
  unfold ckK at h2 hp
  rw [if_pos rfl, hn] at h2 hp
  unfold ckOf at h2 hp
  by_cases hq : 4 ≤ 4 + (ck.length : Int) ∧ 20 + (4 + (ck.length : Int) - 4).toNat ≤ ((initA x0 x1 x2 x3 x4 ck).take kk).length
  · rw [if_pos hq, List.length_take, List.length_drop, hlen] at h2
    rw [hlen] at hq
    have : min (4 + (ck.length : Int) - 4).toNat (kk - 20) = ck.length := by omega
    rw [this] at h2
    omega
  · rw [if_neg hq] at hp
    simp at hp
-- data
theorem okData_cut {x0 x1 x2 : Int} {bs : List Int} (y : Int) {f : Int} {kk : Nat} (h00 : 0 ≤ x0) (h01 : x0 < 4294967296) (h10 : 0 ≤ x1) (h11 : x1 < 65536) (h20 : 0 ≤ x2) (h21 : x2 < 65536) (hf0 : 0 ≤ f) (hf1 : f < 256) (hk : kk ≤ (dataB x0 x1 x2 bs).length) :
    okData 0 f ((dataB x0 x1 x2 bs).take kk) = (decide (f < 8) && decide (12 < kk)) := by
  have hl := dataB_len x0 x1 x2 bs
  have hlen : ((dataB x0 x1 x2 bs).take kk).length = kk := by rw [List.length_take, Nat.min_eq_left hk]
  unfold okData
  rw [hlen]
  by_cases hk12 : 12 < kk
  · have e : (dataB x0 x1 x2 bs).take kk = dataB x0 x1 x2 (bs.take (kk - 12)) := by
      unfold dataB
      rw [List.take_append, List.take_of_length_le (by simp; omega), show kk - (enc x0 4 ++ enc x1 2 ++ enc x2 2 ++ enc 0 4).length = kk - 12 by simp]
    obtain ⟨e0, e1, e2, e3⟩ := dataB_nums (bs.take (kk - 12)) h00 h01 h10 h11 h20 h21
    rw [e, e0, e1, e2, e3, decide_eq_true hk12, Bool.true_and, Bool.and_true]
    unfold eqC
    have hd : ∀ u v l, dflags u v l < 8 ∧ 0 ≤ dflags u v l := by intro u v l; cases u <;> cases v <;> cases l <;> decide
    by_cases h8 : f < 8
    · have hb : f = dflags (bitB f 4) (bitB f 2) (bitB f 1) := by
        have : f = 0 ∨ f = 1 ∨ f = 2 ∨ f = 3 ∨ f = 4 ∨ f = 5 ∨ f = 6 ∨ f = 7 := by omega
        rcases this with rfl | rfl | rfl | rfl | rfl | rfl | rfl | rfl <;> decide
      rw [decide_eq_true h8]
      exact decide_eq_true ⟨rfl, hb, rfl⟩
    · rw [decide_eq_false h8]
      exact decide_eq_false (fun h => by have := (hd (bitB f 4) (bitB f 2) (bitB f 1)).1; have := h.2.1; omega)
  · rw [decide_eq_false hk12, Bool.false_and, Bool.and_false]
end Go.Proofs.Ytlihcckgnnnekaa

/-
  The walk of BodiesCuts. Written by gencuts.py.
-/
namespace Go.Proofs.Ytlihcckgnnnekaa
open Go.RowKit
set_option linter.unusedVariables false
set_option linter.unusedSimpArgs false
set_option linter.unnecessarySimpa false

theorem putCum4 (x : Int) (w : World) (h0 : 0 ≤ x) (h1 : x < 4294967296) : Calls Try.prog 45 #[.int .u32 x] w fun e w' => ∃ a c, e = .returned (.agg #[.int .u8 7, .int .u8 0, .slice a 4 c]) ∧ Below w.heap.size w w' ∧ Reads w' a 4 (enc x 4) ∧ 4 ≤ c := by
  refine (pputCum x w h0 h1).mono ?_
  rintro e w' ⟨a, c, rfl, hb, hr⟩
  have el : (enc x 4).length = 4 := by simp
  rw [el] at hr ⊢
  exact ⟨a, c, rfl, hb, hr.reads, hr.le⟩
theorem reads_take {w : World} {a : Option Addr} {n c : Nat} {zs : List Int} (h : Reads w a n zs) {kk : Nat} (hk : kk ≤ n) (hc : n ≤ c) : Reads w (cutA a 0 c) kk (zs.take kk) := by
  have := reads_cut h 0 kk (by omega) hk hc
  simpa using this
/-- What is so of the chunk at a place of the slice in block g. -/
def Ent (W : World) (g i : Nat) : Prop := ∃ (K : Int) (a : Option Addr) (n c : Nat) (zs : List Int), W.cell? ⟨g, i * 3, none⟩ = some (.int .u8 K) ∧ W.cell? ⟨g, i * 3 + 1, none⟩ = some (.int .u8 0) ∧ W.cell? ⟨g, i * 3 + 2, none⟩ = some (.slice a n c) ∧ g < W.heap.size ∧ Reads W a n zs ∧ Byt zs ∧ n ≤ c ∧ n ≤ 20000 ∧ CutOk K zs
theorem Ent.below {W W' : World} {g i : Nat} (h : Ent W g i) (hb : Below W.heap.size W W') : Ent W' g i := by
  obtain ⟨K, a, n, c, zs, h0, h1, h2, hg, hr, r⟩ := h
  exact ⟨K, a, n, c, zs, (hb.cell (p := ⟨g, i * 3, none⟩) hg).trans h0, (hb.cell (p := ⟨g, i * 3 + 1, none⟩) hg).trans h1, (hb.cell (p := ⟨g, i * 3 + 2, none⟩) hg).trans h2, Nat.lt_of_lt_of_le hg hb.size, hr.below hb, r⟩
theorem ents {W : World} {g : Nat} {p0 p1 p2 p3 p4 : Option Addr} {n0 n1 n2 n3 n4 c0 c1 c2 c3 c4 : Nat} {K0 K1 K2 K3 K4 : Int} {z0 z1 z2 z3 z4 : List Int}
    (hA : Arr W g 28 [.int .u8 K0, .int .u8 0, .slice p0 n0 c0, .int .u8 K1, .int .u8 0, .slice p1 n1 c1, .int .u8 K2, .int .u8 0, .slice p2 n2 c2, .int .u8 K3, .int .u8 0, .slice p3 n3 c3, .int .u8 K4, .int .u8 0, .slice p4 n4 c4])
    (r0 : Reads W p0 n0 z0 ∧ Byt z0 ∧ n0 ≤ c0 ∧ n0 ≤ 20000 ∧ CutOk K0 z0) (r1 : Reads W p1 n1 z1 ∧ Byt z1 ∧ n1 ≤ c1 ∧ n1 ≤ 20000 ∧ CutOk K1 z1) (r2 : Reads W p2 n2 z2 ∧ Byt z2 ∧ n2 ≤ c2 ∧ n2 ≤ 20000 ∧ CutOk K2 z2) (r3 : Reads W p3 n3 z3 ∧ Byt z3 ∧ n3 ≤ c3 ∧ n3 ≤ 20000 ∧ CutOk K3 z3) (r4 : Reads W p4 n4 z4 ∧ Byt z4 ∧ n4 ≤ c4 ∧ n4 ≤ 20000 ∧ CutOk K4 z4) : ∀ i, i < 5 → Ent W g i := by
  intro i hi
  have hg := hA.lt
  match i, hi with
  | 0, _ => exact ⟨_, _, _, _, z0, hA.cell (i := 0) rfl, hA.cell (i := 1) rfl, hA.cell (i := 2) rfl, hg, r0⟩
  | 1, _ => exact ⟨_, _, _, _, z1, hA.cell (i := 3) rfl, hA.cell (i := 4) rfl, hA.cell (i := 5) rfl, hg, r1⟩
  | 2, _ => exact ⟨_, _, _, _, z2, hA.cell (i := 6) rfl, hA.cell (i := 7) rfl, hA.cell (i := 8) rfl, hg, r2⟩
  | 3, _ => exact ⟨_, _, _, _, z3, hA.cell (i := 9) rfl, hA.cell (i := 10) rfl, hA.cell (i := 11) rfl, hg, r3⟩
  | 4, _ => exact ⟨_, _, _, _, z4, hA.cell (i := 12) rfl, hA.cell (i := 13) rfl, hA.cell (i := 14) rfl, hg, r4⟩
/-- A block of seven cells. -/
def HasRow (W : World) (g : Nat) : Prop := ∃ z0 z1 z2 z3 z4 z5 z6, Arr W g 26 [z0, z1, z2, z3, z4, z5, z6]
theorem HasRow.keep {W W' : World} {g : Nat} (h : HasRow W g) (hb : Below W.heap.size W W') : HasRow W' g := by
  obtain ⟨z0, z1, z2, z3, z4, z5, z6, h⟩ := h
  exact ⟨z0, z1, z2, z3, z4, z5, z6, h.keep hb⟩
theorem HasRow.set {W : World} {g : Nat} (h : HasRow W g) (g' i : Nat) (v : Value) : HasRow (W.setCell ⟨g', i, none⟩ v) g := by
  obtain ⟨z0, z1, z2, z3, z4, z5, z6, h⟩ := h
  by_cases e : g = g'
  · subst e
    have h2 := h.set i v
    have hl : ([z0, z1, z2, z3, z4, z5, z6].set i v).length = 7 := by simp
    match hq : [z0, z1, z2, z3, z4, z5, z6].set i v, hl with
    | [y0, y1, y2, y3, y4, y5, y6], _ => rw [hq] at h2; exact ⟨_, _, _, _, _, _, _, h2⟩
  · exact ⟨z0, z1, z2, z3, z4, z5, z6, (Below.heap_setCell W ⟨g', i, none⟩ v g (fun h => e h)).trans h⟩
theorem GotD.er {w : World} {k f : Int} {zs : List Int} {e : Ending} {w' : World} (h : GotD w k f zs e w') : ∃ X0 X1 X2 X3 X4 X5 a1 m1 c1, e = .returned (.tuple #[.agg #[.int .u32 X0, .int .u16 X1, .int .u16 X2, .bool X3, .bool X4, .bool X5, .slice a1 m1 c1], .int .i64 (if okData k f zs = true then 0 else 7)]) ∧ Below w.heap.size w w' := by
  obtain ⟨a1, c1, h1, h2, _⟩ := h
  rcases h1 with ⟨hb, rfl⟩ | ⟨hb, rfl⟩
  · rw [if_pos hb]; exact ⟨_, _, _, _, _, _, _, _, _, rfl, h2⟩
  · rw [if_neg (by rw [hb]; decide)]; exact ⟨_, _, _, _, _, _, _, _, _, rfl, h2⟩


/-- What the operations of the drawn region leave behind. -/
def LCt (w w1 : World) (ak : Bool) (d0 d1 d2 : Int) (d3 d4 d5 : Bool) (da : Option Addr) (dn dk : Nat) (dz : List Int) (i0 i1 i2 i3 i4 : Int) (ia : Option Addr) (in' ik : Nat) (iz : List Int) (s0 s1 : Int) (sa : Option Addr) (sn sk : Nat) (sg : List (Int × Int)) (sb : Option Addr) (sm sl : Nat) (sd : List Int) (f0 : Int) (fa : Option Addr) (fn' fk : Nat) (fs : List (Int × Int)) (at' cu : Int) (ct fl : Int) (i : Nat) (v : Value) (W : World) : Prop := match i with | 0 => v = .pointer (some ⟨w.heap.size, 8, none⟩) | 1 => v = .agg #[.int .u32 i0, .int .u32 i1, .int .u16 i2, .int .u16 i3, .int .u32 i4, .slice ia in' ik] | 2 => ∃ a1 c1, v = .agg #[.int .u8 2, .int .u8 0, .slice a1 (initB 2 i0 i1 i2 i3 i4 iz).length c1] ∧ Reads W a1 (initB 2 i0 i1 i2 i3 i4 iz).length (initB 2 i0 i1 i2 i3 i4 iz) ∧ (initB 2 i0 i1 i2 i3 i4 iz).length ≤ c1 | 3 => v = .pointer (some ⟨w.heap.size, 14, none⟩) | 4 => v = .agg #[.int .u32 s0, .int .u32 s1, .slice sa sn sk, .slice sb sm sl] | 5 => ∃ a1 c1, v = .agg #[.int .u8 3, .int .u8 0, .slice a1 (sackB s0 s1 sg sd).length c1] ∧ Reads W a1 (sackB s0 s1 sg sd).length (sackB s0 s1 sg sd) ∧ (sackB s0 s1 sg sd).length ≤ c1 | 6 => v = .pointer (some ⟨w.heap.size, 18, none⟩) | 7 => v = .agg #[.int .u32 f0, .slice fa fn' fk] | 8 => ∃ a1 c1, v = .agg #[.int .u8 192, .int .u8 0, .slice a1 (fwdB f0 fs).length c1] ∧ Reads W a1 (fwdB f0 fs).length (fwdB f0 fs) ∧ (fwdB f0 fs).length ≤ c1 | 9 => v = .pointer (some ⟨w.heap.size, 20, none⟩) | 10 => v = .int .i64 at' | 11 => ∃ a1 c1, v = .agg #[.int .u8 4, .int .u8 0, .slice a1 (timeB at').length c1] ∧ Reads W a1 (timeB at').length (timeB at') ∧ (timeB at').length ≤ c1 | 12 => v = .pointer (some ⟨w.heap.size, 21, none⟩) | 13 => v = .int .u32 cu | 14 => ∃ a1 c1, v = .agg #[.int .u8 7, .int .u8 0, .slice a1 4 c1] ∧ Reads W a1 4 (enc cu 4) ∧ 4 ≤ c1 | 15 => ∃ gs pi qi ps qs pf qf pt qt pu qu, v = .slice (some ⟨gs, 0, none⟩) 5 5 ∧ Arr W gs 28 [.int .u8 2, .int .u8 0, .slice pi (initB 2 i0 i1 i2 i3 i4 iz).length qi, .int .u8 3, .int .u8 0, .slice ps (sackB s0 s1 sg sd).length qs, .int .u8 192, .int .u8 0, .slice pf (fwdB f0 fs).length qf, .int .u8 4, .int .u8 0, .slice pt (timeB at').length qt, .int .u8 7, .int .u8 0, .slice pu 4 qu] ∧ Reads W pi (initB 2 i0 i1 i2 i3 i4 iz).length (initB 2 i0 i1 i2 i3 i4 iz) ∧ (initB 2 i0 i1 i2 i3 i4 iz).length ≤ qi ∧ Reads W ps (sackB s0 s1 sg sd).length (sackB s0 s1 sg sd) ∧ (sackB s0 s1 sg sd).length ≤ qs ∧ Reads W pf (fwdB f0 fs).length (fwdB f0 fs) ∧ (fwdB f0 fs).length ≤ qf ∧ Reads W pt (timeB at').length (timeB at') ∧ (timeB at').length ≤ qt ∧ Reads W pu 4 (enc cu 4) ∧ 4 ≤ qu | 16 => ∃ gs_57 pi_57 qi_57 ps_57 qs_57 pf_57 qf_57 pt_57 qt_57 pu_57 qu_57, v = .slice (some ⟨gs_57, 0, none⟩) 5 5 ∧ Arr W gs_57 28 [.int .u8 2, .int .u8 0, .slice pi_57 (initB 2 i0 i1 i2 i3 i4 iz).length qi_57, .int .u8 3, .int .u8 0, .slice ps_57 (sackB s0 s1 sg sd).length qs_57, .int .u8 192, .int .u8 0, .slice pf_57 (fwdB f0 fs).length qf_57, .int .u8 4, .int .u8 0, .slice pt_57 (timeB at').length qt_57, .int .u8 7, .int .u8 0, .slice pu_57 4 qu_57] ∧ Reads W pi_57 (initB 2 i0 i1 i2 i3 i4 iz).length (initB 2 i0 i1 i2 i3 i4 iz) ∧ (initB 2 i0 i1 i2 i3 i4 iz).length ≤ qi_57 ∧ Reads W ps_57 (sackB s0 s1 sg sd).length (sackB s0 s1 sg sd) ∧ (sackB s0 s1 sg sd).length ≤ qs_57 ∧ Reads W pf_57 (fwdB f0 fs).length (fwdB f0 fs) ∧ (fwdB f0 fs).length ≤ qf_57 ∧ Reads W pt_57 (timeB at').length (timeB at') ∧ (timeB at').length ≤ qt_57 ∧ Reads W pu_57 4 (enc cu 4) ∧ 4 ≤ qu_57 | _ => True
theorem LCt_mono {w w1 : World} {ak : Bool} {d0 d1 d2 : Int} {d3 d4 d5 : Bool} {da : Option Addr} {dn dk : Nat} {dz : List Int} {i0 i1 i2 i3 i4 : Int} {ia : Option Addr} {in' ik : Nat} {iz : List Int} {s0 s1 : Int} {sa : Option Addr} {sn sk : Nat} {sg : List (Int × Int)} {sb : Option Addr} {sm sl : Nat} {sd : List Int} {f0 : Int} {fa : Option Addr} {fn' fk : Nat} {fs : List (Int × Int)} {at' cu : Int} {ct fl : Int} {W W' : World} (hb : Below W.heap.size W W') (jo : Nat) (xo : Value) (h : LCt w w1 ak d0 d1 d2 d3 d4 d5 da dn dk dz i0 i1 i2 i3 i4 ia in' ik iz s0 s1 sa sn sk sg sb sm sl sd f0 fa fn' fk fs at' cu ct fl jo xo W) : LCt w w1 ak d0 d1 d2 d3 d4 d5 da dn dk dz i0 i1 i2 i3 i4 ia in' ik iz s0 s1 sa sn sk sg sb sm sl sd f0 fa fn' fk fs at' cu ct fl jo xo W' := by
  unfold LCt at h ⊢
  split at h <;> try exact h
  · obtain ⟨a1, c1, e0, h0_0, h0_1⟩ := h
    exact ⟨a1, c1, e0, h0_0.below hb, h0_1⟩
  · obtain ⟨a1, c1, e0, h0_0, h0_1⟩ := h
    exact ⟨a1, c1, e0, h0_0.below hb, h0_1⟩
  · obtain ⟨a1, c1, e0, h0_0, h0_1⟩ := h
    exact ⟨a1, c1, e0, h0_0.below hb, h0_1⟩
  · obtain ⟨a1, c1, e0, h0_0, h0_1⟩ := h
    exact ⟨a1, c1, e0, h0_0.below hb, h0_1⟩
  · obtain ⟨a1, c1, e0, h0_0, h0_1⟩ := h
    exact ⟨a1, c1, e0, h0_0.below hb, h0_1⟩
  · obtain ⟨gs, pi, qi, ps, qs, pf, qf, pt, qt, pu, qu, e0, h0_0, h0_1, h0_2, h0_3, h0_4, h0_5, h0_6, h0_7, h0_8, h0_9, h0_10⟩ := h
    exact ⟨gs, pi, qi, ps, qs, pf, qf, pt, qt, pu, qu, e0, h0_0.keep hb, h0_1.below hb, h0_2, h0_3.below hb, h0_4, h0_5.below hb, h0_6, h0_7.below hb, h0_8, h0_9.below hb, h0_10⟩
  · obtain ⟨gs_57, pi_57, qi_57, ps_57, qs_57, pf_57, qf_57, pt_57, qt_57, pu_57, qu_57, e0, h0_0, h0_1, h0_2, h0_3, h0_4, h0_5, h0_6, h0_7, h0_8, h0_9, h0_10⟩ := h
    exact ⟨gs_57, pi_57, qi_57, ps_57, qs_57, pf_57, qf_57, pt_57, qt_57, pu_57, qu_57, e0, h0_0.keep hb, h0_1.below hb, h0_2, h0_3.below hb, h0_4, h0_5.below hb, h0_6, h0_7.below hb, h0_8, h0_9.below hb, h0_10⟩

/-- What the operations of the drawn region leave behind. -/
def LCu (w w3 : World) (kq M : Int) (aq : Option Addr) (n c gb kk : Nat) (i : Nat) (v : Value) (W : World) : Prop := match i with | 0 => v = .pointer (some ⟨gb, 0, none⟩) | 1 => v = .int .u8 kq | 2 => v = .pointer (some ⟨gb, 2, none⟩) | 3 => v = .slice aq n c | 4 => v = .int .i64 (kk : Int) | 5 => v = .slice (cutA aq 0 c) kk c | 6 => v = .agg #[.int .u8 kq, .int .u8 0, .slice (cutA aq 0 c) kk c] | 7 => v = .tuple #[.int .i64 M, .bool true] | 8 => v = .tuple #[.int .i64 M, .bool true] | 9 => v = .int .i64 M | 10 => v = .bool true | 11 => v = .int .i64 M | 12 => v = .bool true | _ => True
theorem LCu_mono {w w3 : World} {kq M : Int} {aq : Option Addr} {n c gb kk : Nat} {W W' : World} (hb : Below W.heap.size W W') (jo : Nat) (xo : Value) (h : LCu w w3 kq M aq n c gb kk jo xo W) : LCu w w3 kq M aq n c gb kk jo xo W' := by
  unfold LCu at h ⊢
  split at h <;> try exact h
theorem LCu_any {w w3 : World} {kq M : Int} {aq : Option Addr} {n c gb kk : Nat} {W W' : World} (jo : Nat) (xo : Value) (h : LCu w w3 kq M aq n c gb kk jo xo W) : LCu w w3 kq M aq n c gb kk jo xo W' := by
  unfold LCu at h ⊢
  split at h <;> exact h

/-- What the operations of the drawn region leave behind. -/
def LCv (w w7 : World) (d3 d4 d5 : Bool) (fl er : Int) (pd : Option Addr) (LD qd gd kd : Nat) (i : Nat) (v : Value) (W : World) : Prop := match i with | 0 => v = .pointer (some ⟨gd, 0, none⟩) | 1 => v = .int .u8 0 | 2 => v = .int .u8 fl | 3 => v = .pointer (some ⟨gd, 2, none⟩) | 4 => v = .slice pd LD qd | 5 => v = .int .i64 (kd : Int) | 6 => v = .slice (cutA pd 0 qd) kd qd | 7 => v = .agg #[.int .u8 0, .int .u8 fl, .slice (cutA pd 0 qd) kd qd] | 8 => ∃ X0 X1 X2 X3 X4 X5 a1 m1 c1, v = .tuple #[.agg #[.int .u32 X0, .int .u16 X1, .int .u16 X2, .bool X3, .bool X4, .bool X5, .slice a1 m1 c1], .int .i64 er] | 9 => ∃ X0_164 X1_164 X2_164 X3_164 X4_164 X5_164 a1_164 m1_164 c1_164, v = .tuple #[.agg #[.int .u32 X0_164, .int .u16 X1_164, .int .u16 X2_164, .bool X3_164, .bool X4_164, .bool X5_164, .slice a1_164 m1_164 c1_164], .int .i64 er] | 10 => ∃ X0_155 X1_155 X2_155 X3_155 X4_155 X5_155 a1_155 m1_155 c1_155, v = .agg #[.int .u32 X0_155, .int .u16 X1_155, .int .u16 X2_155, .bool X3_155, .bool X4_155, .bool X5_155, .slice a1_155 m1_155 c1_155] | 11 => v = .int .i64 er | 12 => ∃ gn, v = .pointer (some ⟨gn, 0, none⟩) ∧ w7.heap.size ≤ gn ∧ HasRow W gn | 14 => v = .int .i64 er | _ => True
theorem LCv_mono {w w7 : World} {d3 d4 d5 : Bool} {fl er : Int} {pd : Option Addr} {LD qd gd kd : Nat} {W W' : World} (hb : Below W.heap.size W W') (jo : Nat) (xo : Value) (h : LCv w w7 d3 d4 d5 fl er pd LD qd gd kd jo xo W) : LCv w w7 d3 d4 d5 fl er pd LD qd gd kd jo xo W' := by
  unfold LCv at h ⊢
  split at h <;> try exact h
  · obtain ⟨gn, e0, h0_0, h0_1⟩ := h
    exact ⟨gn, e0, h0_0, h0_1.keep hb⟩

theorem LCv_set {w w7 : World} {d3 d4 d5 : Bool} {fl er : Int} {pd : Option Addr} {LD qd gd kd : Nat} {W : World} {g' i : Nat} {v : Value} {j : Nat} {x : Value} (h : LCv w w7 d3 d4 d5 fl er pd LD qd gd kd j x W) : LCv w w7 d3 d4 d5 fl er pd LD qd gd kd j x (W.setCell ⟨g', i, none⟩ v) := by
  unfold LCv at h ⊢
  split at h <;> first | exact h | (obtain ⟨gn, e0, h0, h⟩ := h; exact ⟨gn, e0, h0, h.set g' i v⟩)

set_option maxRecDepth 100000 in
set_option maxHeartbeats 3200000 in
theorem bodiesCuts_walk (ak : Bool) (d0 d1 d2 : Int) (d3 d4 d5 : Bool) (da : Option Addr) (dn dk : Nat) (dz : List Int) (i0 i1 i2 i3 i4 : Int) (ia : Option Addr) (in' ik : Nat) (iz : List Int) (s0 s1 : Int) (sa : Option Addr) (sn sk : Nat) (sg : List (Int × Int)) (sb : Option Addr) (sm sl : Nat) (sd : List Int) (f0 : Int) (fa : Option Addr) (fn' fk : Nat) (fs : List (Int × Int)) (at' cu : Int) (ct fl : Int) (w : World) (vd0 : (Lit.int .u32 d0).wf = true) (vd1 : (Lit.int .u16 d1).wf = true) (vd2 : (Lit.int .u16 d2).wf = true) (vd : IsRow .u8 w da dn dk dz) (vi0 : (Lit.int .u32 i0).wf = true) (vi1 : (Lit.int .u32 i1).wf = true) (vi2 : (Lit.int .u16 i2).wf = true) (vi3 : (Lit.int .u16 i3).wf = true) (vi4 : (Lit.int .u32 i4).wf = true) (vi : IsRow .u8 w ia in' ik iz) (vs0 : (Lit.int .u32 s0).wf = true) (vs1 : (Lit.int .u32 s1).wf = true) (vsg : Prs w sa sn sg ∧ sn ≤ sk) (vsd : Nums .u32 w sb sm sd ∧ sm ≤ sl) (vf0 : (Lit.int .u32 f0).wf = true) (vfs : Prs w fa fn' fs ∧ fn' ≤ fk) (vat : (Lit.int .i64 at').wf = true) (vcu : (Lit.int .u32 cu).wf = true) (vct : (Lit.int .u16 ct).wf = true) (vfl : (Lit.int .u8 fl).wf = true) :
    Calls Try.prog 10 #[.agg #[.bool ak, .int .u32 d0, .int .u16 d1, .int .u16 d2, .bool d3, .bool d4, .bool d5, .slice da dn dk, .int .u32 i0, .int .u32 i1, .int .u16 i2, .int .u16 i3, .int .u32 i4, .slice ia in' ik, .int .u32 s0, .int .u32 s1, .slice sa sn sk, .slice sb sm sl, .int .u32 f0, .slice fa fn' fk, .int .i64 at', .int .u32 cu], .int .u16 ct, .int .u8 fl] w fun e w' => e = .returned (.bool true) ∧ Below w.heap.size w w' := by
  obtain ⟨ld0, hd0⟩ : 0 ≤ d0 ∧ d0 < 4294967296 := by have := wf_u32_in vd0; omega
  obtain ⟨ld1, hd1⟩ : 0 ≤ d1 ∧ d1 < 65536 := by have := wf_u16_in vd1; omega
  obtain ⟨ld2, hd2⟩ : 0 ≤ d2 ∧ d2 < 65536 := by have := wf_u16_in vd2; omega
  obtain ⟨li0, hi0⟩ : 0 ≤ i0 ∧ i0 < 4294967296 := by have := wf_u32_in vi0; omega
  obtain ⟨li1, hi1⟩ : 0 ≤ i1 ∧ i1 < 4294967296 := by have := wf_u32_in vi1; omega
  obtain ⟨li2, hi2⟩ : 0 ≤ i2 ∧ i2 < 65536 := by have := wf_u16_in vi2; omega
  obtain ⟨li3, hi3⟩ : 0 ≤ i3 ∧ i3 < 65536 := by have := wf_u16_in vi3; omega
  obtain ⟨li4, hi4⟩ : 0 ≤ i4 ∧ i4 < 4294967296 := by have := wf_u32_in vi4; omega
  obtain ⟨ls0, hs0⟩ : 0 ≤ s0 ∧ s0 < 4294967296 := by have := wf_u32_in vs0; omega
  obtain ⟨ls1, hs1⟩ : 0 ≤ s1 ∧ s1 < 4294967296 := by have := wf_u32_in vs1; omega
  obtain ⟨lf0, hf0⟩ : 0 ≤ f0 ∧ f0 < 4294967296 := by have := wf_u32_in vf0; omega
  obtain ⟨lcu, hcu⟩ : 0 ≤ cu ∧ cu < 4294967296 := by have := wf_u32_in vcu; omega
  obtain ⟨lct, hct⟩ : 0 ≤ ct ∧ ct < 65536 := by have := wf_u16_in vct; omega
  obtain ⟨lfl, hfl⟩ : 0 ≤ fl ∧ fl < 256 := by have := wf_u8_in vfl; omega
  obtain ⟨hrd, hzd, hcd, _⟩ := vd.reads
  obtain ⟨hri, hzi, hci, _⟩ := vi.reads
  generalize dz.take dn = dz at hrd hzd
  generalize iz.take in' = iz at hri hzi
  obtain ⟨hsg, hsk⟩ := vsg
  obtain ⟨hsd, hsl⟩ := vsd
  obtain ⟨hfs, hfk⟩ := vfs
  clear vd0 vd1 vd2 vd vi0 vi1 vi2 vi3 vi4 vi vs0 vs1 vf0 vat vcu
  obtain ⟨wb, hwb⟩ : ∃ wb, w.alloc (.cells #[.bool ak, .int .u32 d0, .int .u16 d1, .int .u16 d2, .bool d3, .bool d4, .bool d5, .slice da dn dk, .int .u32 i0, .int .u32 i1, .int .u16 i2, .int .u16 i3, .int .u32 i4, .slice ia in' ik, .int .u32 s0, .int .u32 s1, .slice sa sn sk, .slice sb sm sl, .int .u32 f0, .slice fa fn' fk, .int .i64 at', .int .u32 cu] 77) = wb := ⟨_, rfl⟩
  have hbb : Below w.heap.size w wb := by rw [← hwb]; exact (Below.refl _ _).alloc (Nat.le_refl _) _
  have hXb : Arr wb w.heap.size 77 [.bool ak, .int .u32 d0, .int .u16 d1, .int .u16 d2, .bool d3, .bool d4, .bool d5, .slice da dn dk, .int .u32 i0, .int .u32 i1, .int .u16 i2, .int .u16 i3, .int .u32 i4, .slice ia in' ik, .int .u32 s0, .int .u32 s1, .slice sa sn sk, .slice sb sm sl, .int .u32 f0, .slice fa fn' fk, .int .i64 at', .int .u32 cu] := by rw [← hwb]; exact arr_new _ _ _
  have c0 := hXb.cell (i := 0) rfl
  have c1 := hXb.cell (i := 1) rfl
  have c2 := hXb.cell (i := 2) rfl
  have c3 := hXb.cell (i := 3) rfl
  have c4 := hXb.cell (i := 4) rfl
  have c5 := hXb.cell (i := 5) rfl
  have c6 := hXb.cell (i := 6) rfl
  have c7 := hXb.cell (i := 7) rfl
  have c8 := hXb.cell (i := 8) rfl
  have c9 := hXb.cell (i := 9) rfl
  have c10 := hXb.cell (i := 10) rfl
  have c11 := hXb.cell (i := 11) rfl
  have c12 := hXb.cell (i := 12) rfl
  have c13 := hXb.cell (i := 13) rfl
  have c14 := hXb.cell (i := 14) rfl
  have c15 := hXb.cell (i := 15) rfl
  have c16 := hXb.cell (i := 16) rfl
  have c17 := hXb.cell (i := 17) rfl
  have c18 := hXb.cell (i := 18) rfl
  have c19 := hXb.cell (i := 19) rfl
  have c20 := hXb.cell (i := 20) rfl
  have c21 := hXb.cell (i := 21) rfl
  have HM := Lib.hid (many_any s0 s1 sa sn sk sb sm sl f0 fa fn' fk wb)
  have H0 := Lib.hid (And.intro hbb hXb)
  clear hbb hXb
  clear vct vfl
  by_cases hmany : 2048 < sn ∨ 2048 < sm ∨ 2048 < fn'
  · rw [decide_eq_true hmany] at HM
    go_enter Try.func10, Try.ntmps10
    go_wp2_with fail
    refine HM.out.mono ?_
    rintro e w1 ⟨rfl, hb1⟩
    have HB1 := Lib.hid (H0.out.1.trans (hb1.mono H0.out.1.size))
    clear hb1 HM H0 hmany
    go_wp2_with (go_at_call 13; refine (works_any _).mono ?_; rintro e w' ⟨rfl, hb⟩)
    go_ret
    exact ⟨rfl, HB1.out.trans (hb.mono HB1.out.size)⟩
  rw [decide_eq_false hmany] at HM
  obtain ⟨hsn, hsm, hfn⟩ : sn ≤ 2048 ∧ sm ≤ 2048 ∧ fn' ≤ 2048 := by omega
  clear hmany
  by_cases hin : 8192 < in'
  · have g : (8192 : Int) < (in' : Int) := by omega
    go_enter Try.func10, Try.ntmps10
    go_wp2_with fail
    refine HM.out.mono ?_
    rintro e w1 ⟨rfl, hb1⟩
    have HB1 := Lib.hid (H0.out.1.trans (hb1.mono H0.out.1.size))
    have hx1 := H0.out.2.keep hb1
    clear c0 c1 c2 c3 c4 c5 c6 c7 c8 c9 c10 c11 c12 c13 c14 c15 c16 c17 c18 c19 c20 c21
    have c0 := hx1.cell (i := 0) rfl
    have c1 := hx1.cell (i := 1) rfl
    have c2 := hx1.cell (i := 2) rfl
    have c3 := hx1.cell (i := 3) rfl
    have c4 := hx1.cell (i := 4) rfl
    have c5 := hx1.cell (i := 5) rfl
    have c6 := hx1.cell (i := 6) rfl
    have c7 := hx1.cell (i := 7) rfl
    have c8 := hx1.cell (i := 8) rfl
    have c9 := hx1.cell (i := 9) rfl
    have c10 := hx1.cell (i := 10) rfl
    have c11 := hx1.cell (i := 11) rfl
    have c12 := hx1.cell (i := 12) rfl
    have c13 := hx1.cell (i := 13) rfl
    have c14 := hx1.cell (i := 14) rfl
    have c15 := hx1.cell (i := 15) rfl
    have c16 := hx1.cell (i := 16) rfl
    have c17 := hx1.cell (i := 17) rfl
    have c18 := hx1.cell (i := 18) rfl
    have c19 := hx1.cell (i := 19) rfl
    have c20 := hx1.cell (i := 20) rfl
    have c21 := hx1.cell (i := 21) rfl
    have HX1 := Lib.hid hx1
    clear hb1 HM H0 hx1
    go_wp2_with (go_at_call 13; refine (works_any _).mono ?_; rintro e w' ⟨rfl, hb⟩)
    go_ret
    exact ⟨rfl, HB1.out.trans (hb.mono HB1.out.size)⟩
  have gi : ¬ (8192 : Int) < (in' : Int) := by omega
  by_cases hdn : 8192 < dn
  · have g : (8192 : Int) < (dn : Int) := by omega
    go_enter Try.func10, Try.ntmps10
    go_wp2_with fail
    refine HM.out.mono ?_
    rintro e w1 ⟨rfl, hb1⟩
    have HB1 := Lib.hid (H0.out.1.trans (hb1.mono H0.out.1.size))
    have hx1 := H0.out.2.keep hb1
    clear c0 c1 c2 c3 c4 c5 c6 c7 c8 c9 c10 c11 c12 c13 c14 c15 c16 c17 c18 c19 c20 c21
    have c0 := hx1.cell (i := 0) rfl
    have c1 := hx1.cell (i := 1) rfl
    have c2 := hx1.cell (i := 2) rfl
    have c3 := hx1.cell (i := 3) rfl
    have c4 := hx1.cell (i := 4) rfl
    have c5 := hx1.cell (i := 5) rfl
    have c6 := hx1.cell (i := 6) rfl
    have c7 := hx1.cell (i := 7) rfl
    have c8 := hx1.cell (i := 8) rfl
    have c9 := hx1.cell (i := 9) rfl
    have c10 := hx1.cell (i := 10) rfl
    have c11 := hx1.cell (i := 11) rfl
    have c12 := hx1.cell (i := 12) rfl
    have c13 := hx1.cell (i := 13) rfl
    have c14 := hx1.cell (i := 14) rfl
    have c15 := hx1.cell (i := 15) rfl
    have c16 := hx1.cell (i := 16) rfl
    have c17 := hx1.cell (i := 17) rfl
    have c18 := hx1.cell (i := 18) rfl
    have c19 := hx1.cell (i := 19) rfl
    have c20 := hx1.cell (i := 20) rfl
    have c21 := hx1.cell (i := 21) rfl
    have HX1 := Lib.hid hx1
    clear hb1 HM H0 hx1
    go_wp2_with (go_at_call 13; refine (works_any _).mono ?_; rintro e w' ⟨rfl, hb⟩)
    go_ret
    exact ⟨rfl, HB1.out.trans (hb.mono HB1.out.size)⟩
  have gd : ¬ (8192 : Int) < (dn : Int) := by omega
  have HD := Lib.hid (And.intro hrd (And.intro hzd hcd))
  have HI := Lib.hid (And.intro hri (And.intro hzi hci))
  have HS := Lib.hid (And.intro hsg hsd)
  have HF := Lib.hid hfs
  clear hrd hzd hcd hri hzi hci hsg hsd hfs
  go_enter Try.func10, Try.ntmps10
  go_wp2_with fail
  refine HM.out.mono ?_
  rintro e w1 ⟨rfl, hb1⟩
  have HB1 := Lib.hid (H0.out.1.trans (hb1.mono H0.out.1.size))
  have hx1 := H0.out.2.keep hb1
  clear c0 c1 c2 c3 c4 c5 c6 c7 c8 c9 c10 c11 c12 c13 c14 c15 c16 c17 c18 c19 c20 c21
  have c0 := hx1.cell (i := 0) rfl
  have c1 := hx1.cell (i := 1) rfl
  have c2 := hx1.cell (i := 2) rfl
  have c3 := hx1.cell (i := 3) rfl
  have c4 := hx1.cell (i := 4) rfl
  have c5 := hx1.cell (i := 5) rfl
  have c6 := hx1.cell (i := 6) rfl
  have c7 := hx1.cell (i := 7) rfl
  have c8 := hx1.cell (i := 8) rfl
  have c9 := hx1.cell (i := 9) rfl
  have c10 := hx1.cell (i := 10) rfl
  have c11 := hx1.cell (i := 11) rfl
  have c12 := hx1.cell (i := 12) rfl
  have c13 := hx1.cell (i := 13) rfl
  have c14 := hx1.cell (i := 14) rfl
  have c15 := hx1.cell (i := 15) rfl
  have c16 := hx1.cell (i := 16) rfl
  have c17 := hx1.cell (i := 17) rfl
  have c18 := hx1.cell (i := 18) rfl
  have c19 := hx1.cell (i := 19) rfl
  have c20 := hx1.cell (i := 20) rfl
  have c21 := hx1.cell (i := 21) rfl
  have HX1 := Lib.hid hx1
  clear hb1 HM H0 hx1
  go_wp2_with fail
  clear c0 c1 c2 c3 c4 c5 c6 c7 c8 c9 c10 c11 c12 c13 c14 c15 c16 c17 c18 c19 c20 c21
  refine wp_region_any (by kernel_rfl) ?_
  refine Vals.wpAny_goodW (LCt w w1 ak d0 d1 d2 d3 d4 d5 da dn dk dz i0 i1 i2 i3 i4 ia in' ik iz s0 s1 sa sn sk sg sb sm sl sd f0 fa fn' fk fs at' cu ct fl) (fun _ => (fun W => Below w1.heap.size w1 W)) [some 42, some 43, some 44, some 45, some 46, some 47, some 48, some 49, some 50, some 51, some 52, some 53, some 54, some 55, some 56, some 57, some 7] 179 _ _ rfl (by kernel_rfl) (by kernel_rfl) (by decide) ?step ?fin (Below.refl _ _).drew
  case step =>
    intro i o d ho hd listed a W hls hun hcl hJ hdf hdep hfr K hK
    match i, ho, hd with
    | 0, ho, hd =>
      have ho' := ho
      simp only [List.getElem?_toArray, List.getElem?_cons_zero, Option.some.injEq] at ho hd
      subst ho hd
      have r3 : a.eval (.tmp 3) = .pointer (some ⟨w.heap.size, 0, none⟩) := hfr 3 (by decide)
      rw [Vals.eval_tmp] at r3
      refine Vals.wpOp_run ho' rfl ?_
      clear hdep hfr ho' hdf hcl
      go_simp
      exact hK _ _ (fun _ _ h => h) hJ (fun _ => rfl)
    | 1, ho, hd =>
      have ho' := ho
      simp only [List.getElem?_toArray, List.getElem?_cons_zero, List.getElem?_cons_succ, Option.some.injEq] at ho hd
      subst ho hd
      have r42 : a.eval (.tmp 42) = .pointer (some ⟨w.heap.size, 8, none⟩) := (hdep ⟨0, .data⟩ (by simp) rfl).2 42 rfl
      rw [Vals.eval_tmp] at r42
      have c0 := (HX1.out.keep hJ).cell (i := 8) rfl
      have c1 := (HX1.out.keep hJ).cell (i := 9) rfl
      have c2 := (HX1.out.keep hJ).cell (i := 10) rfl
      have c3 := (HX1.out.keep hJ).cell (i := 11) rfl
      have c4 := (HX1.out.keep hJ).cell (i := 12) rfl
      have c5 := (HX1.out.keep hJ).cell (i := 13) rfl
      refine Vals.wpOp_run ho' rfl ?_
      clear hdep hfr ho' hdf hcl
      go_simp
      exact hK _ _ (fun _ _ h => h) hJ (fun _ => rfl)
    | 2, ho, hd =>
      have ho' := ho
      simp only [List.getElem?_toArray, List.getElem?_cons_zero, List.getElem?_cons_succ, Option.some.injEq] at ho hd
      subst ho hd
      have r43 : a.eval (.tmp 43) = .agg #[.int .u32 i0, .int .u32 i1, .int .u16 i2, .int .u16 i3, .int .u32 i4, .slice ia in' ik] := (hdep ⟨1, .data⟩ (by simp) rfl).2 43 rfl
      rw [Vals.eval_tmp] at r43
      refine Vals.wpOp_run ho' rfl ?_
      clear hdep hfr ho' hdf hcl
      go_simp
      refine (show Calls _ _ _ _ fun e w' => Puts W 2 0 (initB 2 i0 i1 i2 i3 i4 iz) e w' from pputInit 2 i0 i1 i2 i3 i4 ia in' ik iz W (HI.out.1.below (HB1.out.trans (hJ.mono HB1.out.size))) (by omega) li0 hi0 li1 hi1 li2 hi2 li3 hi3 li4 hi4).mono ?_
      rintro e w' ⟨a1, c1, rfl, hb3, hr3⟩
      exact hK _ _ (LCt_mono hb3) (hJ.trans (hb3.mono hJ.size)) (fun _ => ⟨_, _, rfl, hr3.reads, hr3.le⟩)
    | 3, ho, hd =>
      have ho' := ho
      simp only [List.getElem?_toArray, List.getElem?_cons_zero, List.getElem?_cons_succ, Option.some.injEq] at ho hd
      subst ho hd
      have r3 : a.eval (.tmp 3) = .pointer (some ⟨w.heap.size, 0, none⟩) := hfr 3 (by decide)
      rw [Vals.eval_tmp] at r3
      refine Vals.wpOp_run ho' rfl ?_
      clear hdep hfr ho' hdf hcl
      go_simp
      exact hK _ _ (fun _ _ h => h) hJ (fun _ => rfl)
    | 4, ho, hd =>
      have ho' := ho
      simp only [List.getElem?_toArray, List.getElem?_cons_zero, List.getElem?_cons_succ, Option.some.injEq] at ho hd
      subst ho hd
      have r45 : a.eval (.tmp 45) = .pointer (some ⟨w.heap.size, 14, none⟩) := (hdep ⟨3, .data⟩ (by simp) rfl).2 45 rfl
      rw [Vals.eval_tmp] at r45
      have c0 := (HX1.out.keep hJ).cell (i := 14) rfl
      have c1 := (HX1.out.keep hJ).cell (i := 15) rfl
      have c2 := (HX1.out.keep hJ).cell (i := 16) rfl
      have c3 := (HX1.out.keep hJ).cell (i := 17) rfl
      refine Vals.wpOp_run ho' rfl ?_
      clear hdep hfr ho' hdf hcl
      go_simp
      exact hK _ _ (fun _ _ h => h) hJ (fun _ => rfl)
    | 5, ho, hd =>
      have ho' := ho
      simp only [List.getElem?_toArray, List.getElem?_cons_zero, List.getElem?_cons_succ, Option.some.injEq] at ho hd
      subst ho hd
      have r46 : a.eval (.tmp 46) = .agg #[.int .u32 s0, .int .u32 s1, .slice sa sn sk, .slice sb sm sl] := (hdep ⟨4, .data⟩ (by simp) rfl).2 46 rfl
      rw [Vals.eval_tmp] at r46
      refine Vals.wpOp_run ho' rfl ?_
      clear hdep hfr ho' hdf hcl
      go_simp
      refine (show Calls _ _ _ _ fun e w' => Puts W 3 0 (sackB s0 s1 sg sd) e w' from pputSack s0 s1 sa sn sk sg sb sm sl sd W (HS.out.1.below (HB1.out.trans (hJ.mono HB1.out.size)) (Nat.le_refl _)) (HS.out.2.below (HB1.out.trans (hJ.mono HB1.out.size)) (Nat.le_refl _)) (by omega) (by omega) ls0 hs0 ls1 hs1).mono ?_
      rintro e w' ⟨a1, c1, rfl, hb3, hr3⟩
      exact hK _ _ (LCt_mono hb3) (hJ.trans (hb3.mono hJ.size)) (fun _ => ⟨_, _, rfl, hr3.reads, hr3.le⟩)
    | 6, ho, hd =>
      have ho' := ho
      simp only [List.getElem?_toArray, List.getElem?_cons_zero, List.getElem?_cons_succ, Option.some.injEq] at ho hd
      subst ho hd
      have r3 : a.eval (.tmp 3) = .pointer (some ⟨w.heap.size, 0, none⟩) := hfr 3 (by decide)
      rw [Vals.eval_tmp] at r3
      refine Vals.wpOp_run ho' rfl ?_
      clear hdep hfr ho' hdf hcl
      go_simp
      exact hK _ _ (fun _ _ h => h) hJ (fun _ => rfl)
    | 7, ho, hd =>
      have ho' := ho
      simp only [List.getElem?_toArray, List.getElem?_cons_zero, List.getElem?_cons_succ, Option.some.injEq] at ho hd
      subst ho hd
      have r48 : a.eval (.tmp 48) = .pointer (some ⟨w.heap.size, 18, none⟩) := (hdep ⟨6, .data⟩ (by simp) rfl).2 48 rfl
      rw [Vals.eval_tmp] at r48
      have c0 := (HX1.out.keep hJ).cell (i := 18) rfl
      have c1 := (HX1.out.keep hJ).cell (i := 19) rfl
      refine Vals.wpOp_run ho' rfl ?_
      clear hdep hfr ho' hdf hcl
      go_simp
      exact hK _ _ (fun _ _ h => h) hJ (fun _ => rfl)
    | 8, ho, hd =>
      have ho' := ho
      simp only [List.getElem?_toArray, List.getElem?_cons_zero, List.getElem?_cons_succ, Option.some.injEq] at ho hd
      subst ho hd
      have r49 : a.eval (.tmp 49) = .agg #[.int .u32 f0, .slice fa fn' fk] := (hdep ⟨7, .data⟩ (by simp) rfl).2 49 rfl
      rw [Vals.eval_tmp] at r49
      refine Vals.wpOp_run ho' rfl ?_
      clear hdep hfr ho' hdf hcl
      go_simp
      refine (show Calls _ _ _ _ fun e w' => Puts W 192 0 (fwdB f0 fs) e w' from pputForward f0 fa fn' fk fs W (HF.out.below (HB1.out.trans (hJ.mono HB1.out.size)) (Nat.le_refl _)) (by omega) lf0 hf0).mono ?_
      rintro e w' ⟨a1, c1, rfl, hb3, hr3⟩
      exact hK _ _ (LCt_mono hb3) (hJ.trans (hb3.mono hJ.size)) (fun _ => ⟨_, _, rfl, hr3.reads, hr3.le⟩)
    | 9, ho, hd =>
      have ho' := ho
      simp only [List.getElem?_toArray, List.getElem?_cons_zero, List.getElem?_cons_succ, Option.some.injEq] at ho hd
      subst ho hd
      have r3 : a.eval (.tmp 3) = .pointer (some ⟨w.heap.size, 0, none⟩) := hfr 3 (by decide)
      rw [Vals.eval_tmp] at r3
      refine Vals.wpOp_run ho' rfl ?_
      clear hdep hfr ho' hdf hcl
      go_simp
      exact hK _ _ (fun _ _ h => h) hJ (fun _ => rfl)
    | 10, ho, hd =>
      have ho' := ho
      simp only [List.getElem?_toArray, List.getElem?_cons_zero, List.getElem?_cons_succ, Option.some.injEq] at ho hd
      subst ho hd
      have r51 : a.eval (.tmp 51) = .pointer (some ⟨w.heap.size, 20, none⟩) := (hdep ⟨9, .data⟩ (by simp) rfl).2 51 rfl
      rw [Vals.eval_tmp] at r51
      have c0 := (HX1.out.keep hJ).cell (i := 20) rfl
      refine Vals.wpOp_run ho' rfl ?_
      clear hdep hfr ho' hdf hcl
      go_simp
      exact hK _ _ (fun _ _ h => h) hJ (fun _ => rfl)
    | 11, ho, hd =>
      have ho' := ho
      simp only [List.getElem?_toArray, List.getElem?_cons_zero, List.getElem?_cons_succ, Option.some.injEq] at ho hd
      subst ho hd
      have r52 : a.eval (.tmp 52) = .int .i64 at' := (hdep ⟨10, .data⟩ (by simp) rfl).2 52 rfl
      rw [Vals.eval_tmp] at r52
      refine Vals.wpOp_run ho' rfl ?_
      clear hdep hfr ho' hdf hcl
      go_simp
      refine (show Calls _ _ _ _ fun e w' => Puts W 4 0 (timeB at') e w' from pputTime 4 at' W).mono ?_
      rintro e w' ⟨a1, c1, rfl, hb3, hr3⟩
      exact hK _ _ (LCt_mono hb3) (hJ.trans (hb3.mono hJ.size)) (fun _ => ⟨_, _, rfl, hr3.reads, hr3.le⟩)
    | 12, ho, hd =>
      have ho' := ho
      simp only [List.getElem?_toArray, List.getElem?_cons_zero, List.getElem?_cons_succ, Option.some.injEq] at ho hd
      subst ho hd
      have r3 : a.eval (.tmp 3) = .pointer (some ⟨w.heap.size, 0, none⟩) := hfr 3 (by decide)
      rw [Vals.eval_tmp] at r3
      refine Vals.wpOp_run ho' rfl ?_
      clear hdep hfr ho' hdf hcl
      go_simp
      exact hK _ _ (fun _ _ h => h) hJ (fun _ => rfl)
    | 13, ho, hd =>
      have ho' := ho
      simp only [List.getElem?_toArray, List.getElem?_cons_zero, List.getElem?_cons_succ, Option.some.injEq] at ho hd
      subst ho hd
      have r54 : a.eval (.tmp 54) = .pointer (some ⟨w.heap.size, 21, none⟩) := (hdep ⟨12, .data⟩ (by simp) rfl).2 54 rfl
      rw [Vals.eval_tmp] at r54
      have c0 := (HX1.out.keep hJ).cell (i := 21) rfl
      refine Vals.wpOp_run ho' rfl ?_
      clear hdep hfr ho' hdf hcl
      go_simp
      exact hK _ _ (fun _ _ h => h) hJ (fun _ => rfl)
    | 14, ho, hd =>
      have ho' := ho
      simp only [List.getElem?_toArray, List.getElem?_cons_zero, List.getElem?_cons_succ, Option.some.injEq] at ho hd
      subst ho hd
      have r55 : a.eval (.tmp 55) = .int .u32 cu := (hdep ⟨13, .data⟩ (by simp) rfl).2 55 rfl
      rw [Vals.eval_tmp] at r55
      refine Vals.wpOp_run ho' rfl ?_
      clear hdep hfr ho' hdf hcl
      go_simp
      refine (putCum4 cu W lcu hcu).mono ?_
      rintro e w' ⟨a1, c1, rfl, hb3, hr3, hl3⟩
      exact hK _ _ (LCt_mono hb3) (hJ.trans (hb3.mono hJ.size)) (fun _ => ⟨_, _, rfl, hr3, hl3⟩)
    | 15, ho, hd =>
      have ho' := ho
      simp only [List.getElem?_toArray, List.getElem?_cons_zero, List.getElem?_cons_succ, Option.some.injEq] at ho hd
      subst ho hd
      have g44 : ∃ a1_44 c1_44, a.eval (.tmp 44) = .agg #[.int .u8 2, .int .u8 0, .slice a1_44 (initB 2 i0 i1 i2 i3 i4 iz).length c1_44] ∧ Reads W a1_44 (initB 2 i0 i1 i2 i3 i4 iz).length (initB 2 i0 i1 i2 i3 i4 iz) ∧ (initB 2 i0 i1 i2 i3 i4 iz).length ≤ c1_44 := (hdep ⟨2, .data⟩ (by simp) rfl).2 44 rfl
      rw [Vals.eval_tmp] at g44
      obtain ⟨a1_44, c1_44, r44, h44_0, h44_1⟩ := g44
      have g47 : ∃ a1_47 c1_47, a.eval (.tmp 47) = .agg #[.int .u8 3, .int .u8 0, .slice a1_47 (sackB s0 s1 sg sd).length c1_47] ∧ Reads W a1_47 (sackB s0 s1 sg sd).length (sackB s0 s1 sg sd) ∧ (sackB s0 s1 sg sd).length ≤ c1_47 := (hdep ⟨5, .data⟩ (by simp) rfl).2 47 rfl
      rw [Vals.eval_tmp] at g47
      obtain ⟨a1_47, c1_47, r47, h47_0, h47_1⟩ := g47
      have g50 : ∃ a1_50 c1_50, a.eval (.tmp 50) = .agg #[.int .u8 192, .int .u8 0, .slice a1_50 (fwdB f0 fs).length c1_50] ∧ Reads W a1_50 (fwdB f0 fs).length (fwdB f0 fs) ∧ (fwdB f0 fs).length ≤ c1_50 := (hdep ⟨8, .data⟩ (by simp) rfl).2 50 rfl
      rw [Vals.eval_tmp] at g50
      obtain ⟨a1_50, c1_50, r50, h50_0, h50_1⟩ := g50
      have g53 : ∃ a1_53 c1_53, a.eval (.tmp 53) = .agg #[.int .u8 4, .int .u8 0, .slice a1_53 (timeB at').length c1_53] ∧ Reads W a1_53 (timeB at').length (timeB at') ∧ (timeB at').length ≤ c1_53 := (hdep ⟨11, .data⟩ (by simp) rfl).2 53 rfl
      rw [Vals.eval_tmp] at g53
      obtain ⟨a1_53, c1_53, r53, h53_0, h53_1⟩ := g53
      have g56 : ∃ a1_56 c1_56, a.eval (.tmp 56) = .agg #[.int .u8 7, .int .u8 0, .slice a1_56 4 c1_56] ∧ Reads W a1_56 4 (enc cu 4) ∧ 4 ≤ c1_56 := (hdep ⟨14, .data⟩ (by simp) rfl).2 56 rfl
      rw [Vals.eval_tmp] at g56
      obtain ⟨a1_56, c1_56, r56, h56_0, h56_1⟩ := g56
      refine Vals.wpOp_run ho' rfl ?_
      clear hdep hfr ho' hdf hcl
      go_simp
      have hb3 : Below W.heap.size W (W.alloc (.cells #[.int .u8 2, .int .u8 0, .slice a1_44 (initB 2 i0 i1 i2 i3 i4 iz).length c1_44, .int .u8 3, .int .u8 0, .slice a1_47 (sackB s0 s1 sg sd).length c1_47, .int .u8 192, .int .u8 0, .slice a1_50 (fwdB f0 fs).length c1_50, .int .u8 4, .int .u8 0, .slice a1_53 (timeB at').length c1_53, .int .u8 7, .int .u8 0, .slice a1_56 4 c1_56] 28)) := (Below.refl _ _).alloc (Nat.le_refl _) _
      exact hK _ _ (LCt_mono hb3) (hJ.trans (hb3.mono hJ.size)) (fun _ => ⟨_, _, _, _, _, _, _, _, _, _, _, rfl, arr_new _ _ _, h44_0.below hb3, h44_1, h47_0.below hb3, h47_1, h50_0.below hb3, h50_1, h53_0.below hb3, h53_1, h56_0.below hb3, h56_1⟩)
    | 16, ho, hd =>
      have ho' := ho
      simp only [List.getElem?_toArray, List.getElem?_cons_zero, List.getElem?_cons_succ, Option.some.injEq] at ho hd
      subst ho hd
      have g57 : ∃ gs_57 pi_57 qi_57 ps_57 qs_57 pf_57 qf_57 pt_57 qt_57 pu_57 qu_57, a.eval (.tmp 57) = .slice (some ⟨gs_57, 0, none⟩) 5 5 ∧ Arr W gs_57 28 [.int .u8 2, .int .u8 0, .slice pi_57 (initB 2 i0 i1 i2 i3 i4 iz).length qi_57, .int .u8 3, .int .u8 0, .slice ps_57 (sackB s0 s1 sg sd).length qs_57, .int .u8 192, .int .u8 0, .slice pf_57 (fwdB f0 fs).length qf_57, .int .u8 4, .int .u8 0, .slice pt_57 (timeB at').length qt_57, .int .u8 7, .int .u8 0, .slice pu_57 4 qu_57] ∧ Reads W pi_57 (initB 2 i0 i1 i2 i3 i4 iz).length (initB 2 i0 i1 i2 i3 i4 iz) ∧ (initB 2 i0 i1 i2 i3 i4 iz).length ≤ qi_57 ∧ Reads W ps_57 (sackB s0 s1 sg sd).length (sackB s0 s1 sg sd) ∧ (sackB s0 s1 sg sd).length ≤ qs_57 ∧ Reads W pf_57 (fwdB f0 fs).length (fwdB f0 fs) ∧ (fwdB f0 fs).length ≤ qf_57 ∧ Reads W pt_57 (timeB at').length (timeB at') ∧ (timeB at').length ≤ qt_57 ∧ Reads W pu_57 4 (enc cu 4) ∧ 4 ≤ qu_57 := (hdep ⟨15, .data⟩ (by simp) rfl).2 57 rfl
      rw [Vals.eval_tmp] at g57
      obtain ⟨gs_57, pi_57, qi_57, ps_57, qs_57, pf_57, qf_57, pt_57, qt_57, pu_57, qu_57, r57, h57_0, h57_1, h57_2, h57_3, h57_4, h57_5, h57_6, h57_7, h57_8, h57_9, h57_10⟩ := g57
      refine Vals.wpOp_run ho' rfl ?_
      clear hdep hfr ho' hdf hcl
      go_simp
      exact hK _ _ (fun _ _ h => h) hJ (fun _ => ⟨_, _, _, _, _, _, _, _, _, _, _, rfl, h57_0, h57_1, h57_2, h57_3, h57_4, h57_5, h57_6, h57_7, h57_8, h57_9, h57_10⟩)
    | i + 17, ho, hd => simp at ho
  case fin =>
    intro listed W fq hall hJ hG
    have q0 : fq 42 = .pointer (some ⟨w.heap.size, 8, none⟩) := hG 0 42 rfl
    have q1 : fq 43 = .agg #[.int .u32 i0, .int .u32 i1, .int .u16 i2, .int .u16 i3, .int .u32 i4, .slice ia in' ik] := hG 1 43 rfl
    obtain ⟨a1_44, c1_44, q2, hq44_0, hq44_1⟩ : ∃ a1_44 c1_44, fq 44 = .agg #[.int .u8 2, .int .u8 0, .slice a1_44 (initB 2 i0 i1 i2 i3 i4 iz).length c1_44] ∧ Reads W a1_44 (initB 2 i0 i1 i2 i3 i4 iz).length (initB 2 i0 i1 i2 i3 i4 iz) ∧ (initB 2 i0 i1 i2 i3 i4 iz).length ≤ c1_44 := hG 2 44 rfl
    have q3 : fq 45 = .pointer (some ⟨w.heap.size, 14, none⟩) := hG 3 45 rfl
    have q4 : fq 46 = .agg #[.int .u32 s0, .int .u32 s1, .slice sa sn sk, .slice sb sm sl] := hG 4 46 rfl
    obtain ⟨a1_47, c1_47, q5, hq47_0, hq47_1⟩ : ∃ a1_47 c1_47, fq 47 = .agg #[.int .u8 3, .int .u8 0, .slice a1_47 (sackB s0 s1 sg sd).length c1_47] ∧ Reads W a1_47 (sackB s0 s1 sg sd).length (sackB s0 s1 sg sd) ∧ (sackB s0 s1 sg sd).length ≤ c1_47 := hG 5 47 rfl
    have q6 : fq 48 = .pointer (some ⟨w.heap.size, 18, none⟩) := hG 6 48 rfl
    have q7 : fq 49 = .agg #[.int .u32 f0, .slice fa fn' fk] := hG 7 49 rfl
    obtain ⟨a1_50, c1_50, q8, hq50_0, hq50_1⟩ : ∃ a1_50 c1_50, fq 50 = .agg #[.int .u8 192, .int .u8 0, .slice a1_50 (fwdB f0 fs).length c1_50] ∧ Reads W a1_50 (fwdB f0 fs).length (fwdB f0 fs) ∧ (fwdB f0 fs).length ≤ c1_50 := hG 8 50 rfl
    have q9 : fq 51 = .pointer (some ⟨w.heap.size, 20, none⟩) := hG 9 51 rfl
    have q10 : fq 52 = .int .i64 at' := hG 10 52 rfl
    obtain ⟨a1_53, c1_53, q11, hq53_0, hq53_1⟩ : ∃ a1_53 c1_53, fq 53 = .agg #[.int .u8 4, .int .u8 0, .slice a1_53 (timeB at').length c1_53] ∧ Reads W a1_53 (timeB at').length (timeB at') ∧ (timeB at').length ≤ c1_53 := hG 11 53 rfl
    have q12 : fq 54 = .pointer (some ⟨w.heap.size, 21, none⟩) := hG 12 54 rfl
    have q13 : fq 55 = .int .u32 cu := hG 13 55 rfl
    obtain ⟨a1_56, c1_56, q14, hq56_0, hq56_1⟩ : ∃ a1_56 c1_56, fq 56 = .agg #[.int .u8 7, .int .u8 0, .slice a1_56 4 c1_56] ∧ Reads W a1_56 4 (enc cu 4) ∧ 4 ≤ c1_56 := hG 14 56 rfl
    obtain ⟨gs_57, pi_57, qi_57, ps_57, qs_57, pf_57, qf_57, pt_57, qt_57, pu_57, qu_57, q15, hq57_0, hq57_1, hq57_2, hq57_3, hq57_4, hq57_5, hq57_6, hq57_7, hq57_8, hq57_9, hq57_10⟩ : ∃ gs_57 pi_57 qi_57 ps_57 qs_57 pf_57 qf_57 pt_57 qt_57 pu_57 qu_57, fq 57 = .slice (some ⟨gs_57, 0, none⟩) 5 5 ∧ Arr W gs_57 28 [.int .u8 2, .int .u8 0, .slice pi_57 (initB 2 i0 i1 i2 i3 i4 iz).length qi_57, .int .u8 3, .int .u8 0, .slice ps_57 (sackB s0 s1 sg sd).length qs_57, .int .u8 192, .int .u8 0, .slice pf_57 (fwdB f0 fs).length qf_57, .int .u8 4, .int .u8 0, .slice pt_57 (timeB at').length qt_57, .int .u8 7, .int .u8 0, .slice pu_57 4 qu_57] ∧ Reads W pi_57 (initB 2 i0 i1 i2 i3 i4 iz).length (initB 2 i0 i1 i2 i3 i4 iz) ∧ (initB 2 i0 i1 i2 i3 i4 iz).length ≤ qi_57 ∧ Reads W ps_57 (sackB s0 s1 sg sd).length (sackB s0 s1 sg sd) ∧ (sackB s0 s1 sg sd).length ≤ qs_57 ∧ Reads W pf_57 (fwdB f0 fs).length (fwdB f0 fs) ∧ (fwdB f0 fs).length ≤ qf_57 ∧ Reads W pt_57 (timeB at').length (timeB at') ∧ (timeB at').length ≤ qt_57 ∧ Reads W pu_57 4 (enc cu 4) ∧ 4 ≤ qu_57 := hG 15 57 rfl
    obtain ⟨gs_7, pi_7, qi_7, ps_7, qs_7, pf_7, qf_7, pt_7, qt_7, pu_7, qu_7, q16, hq7_0, hq7_1, hq7_2, hq7_3, hq7_4, hq7_5, hq7_6, hq7_7, hq7_8, hq7_9, hq7_10⟩ : ∃ gs_7 pi_7 qi_7 ps_7 qs_7 pf_7 qf_7 pt_7 qt_7 pu_7 qu_7, fq 7 = .slice (some ⟨gs_7, 0, none⟩) 5 5 ∧ Arr W gs_7 28 [.int .u8 2, .int .u8 0, .slice pi_7 (initB 2 i0 i1 i2 i3 i4 iz).length qi_7, .int .u8 3, .int .u8 0, .slice ps_7 (sackB s0 s1 sg sd).length qs_7, .int .u8 192, .int .u8 0, .slice pf_7 (fwdB f0 fs).length qf_7, .int .u8 4, .int .u8 0, .slice pt_7 (timeB at').length qt_7, .int .u8 7, .int .u8 0, .slice pu_7 4 qu_7] ∧ Reads W pi_7 (initB 2 i0 i1 i2 i3 i4 iz).length (initB 2 i0 i1 i2 i3 i4 iz) ∧ (initB 2 i0 i1 i2 i3 i4 iz).length ≤ qi_7 ∧ Reads W ps_7 (sackB s0 s1 sg sd).length (sackB s0 s1 sg sd) ∧ (sackB s0 s1 sg sd).length ≤ qs_7 ∧ Reads W pf_7 (fwdB f0 fs).length (fwdB f0 fs) ∧ (fwdB f0 fs).length ≤ qf_7 ∧ Reads W pt_7 (timeB at').length (timeB at') ∧ (timeB at').length ≤ qt_7 ∧ Reads W pu_7 4 (enc cu 4) ∧ 4 ≤ qu_7 := hG 16 7 rfl
    clear hG hall
    simp only [Vals.puts, Vals.pairs, List.filterMap_cons, List.filterMap_nil, id, List.map_cons, List.map_nil, List.foldl_cons, List.foldl_nil, q0, q1, q2, q3, q4, q5, q6, q7, q8, q9, q10, q11, q12, q13, q14, q15, q16]
    clear q0 q1 q2 q3 q4 q5 q6 q7 q8 q9 q10 q11 q12 q13 q14 q15 q16
    go_frame
    have HB2 := Lib.hid (HB1.out.trans (hJ.mono HB1.out.size))
    have HX2 := Lib.hid (HX1.out.keep hJ)
    have hl1 : iz.length = in' := HI.out.1.1
    have hl2 : sg.length = sn := HS.out.1.1
    have hl3 : sd.length = sm := HS.out.2.1
    have hl4 : fs.length = fn' := HF.out.1
    have HE := Lib.hid (ents hq7_0 ⟨hq7_1, initB_byt _ _ _ _ _ _ HI.out.2.1, hq7_2, (by have := initB_len 2 i0 i1 i2 i3 i4 iz; omega), cut_init (by omega)⟩ ⟨hq7_3, sackB_byt _ _ _ _, hq7_4, (by rw [sackB_len]; omega), cut_sack (by omega) (by omega)⟩ ⟨hq7_5, fwdB_byt _ _, hq7_6, (by rw [fwdB_len]; omega), cut_fwd lf0 hf0 HF.out.2.1⟩ ⟨hq7_7, (((enc_byt _ _).append (enc_byt _ _)).append (enc_byt _ _)), hq7_8, (by simp [timeB]), cut_time _⟩ ⟨hq7_9, enc_byt _ _, hq7_10, (by omega), cut_cum _⟩)
    clear hJ HX1 HB1 hl1 hl2 hl3 hl4 hq7_0 hq57_0 hq7_1 hq57_1 hq7_2 hq57_2 hq7_3 hq57_3 hq7_4 hq57_4 hq7_5 hq57_5 hq7_6 hq57_6 hq7_7 hq57_7 hq7_8 hq57_8 hq7_9 hq57_9 hq7_10 hq57_10 hq44_0 hq44_1 hq47_0 hq47_1 hq50_0 hq50_1 hq53_0 hq53_1 hq56_0 hq56_1
    generalize gs_7 = g at *
    generalize W = w2 at *
    go_wp2_with fail
    go_loopw [8] (fun ii wr => ∃ j : Nat, j ≤ 5 ∧ ii = .int .i64 (j : Int) ∧ Below w2.heap.size w2 wr) (fun ii _ => 5 - (intOf ii).toNat)
    case atStart => exact ⟨0, Nat.zero_le _, rfl, Below.refl _ _⟩
    case round =>
      obtain ⟨j, hj, rfl, hbl⟩ := hrel
      have HBL := Lib.hid hbl
      by_cases hj5 : j < 5
      · skip
        obtain ⟨kq, aq, n, c, zs, h0, h1, h2, hg, hr, hz, hc, hn, hcut⟩ := (HE.out j hj5).below HBL.out
        have hzl : zs.length = n := hr.1
        have HR := Lib.hid (And.intro hr hz)
        have HCU := Lib.hid hcut
        have hj0 : (0 : Int) ≤ (j : Int) := by omega
        have hj1 : (j : Int) < 5 := by omega
        obtain ⟨nb, hnb⟩ : ∃ b, okAny kq 0 zs = b := ⟨_, rfl⟩
        obtain ⟨NN, hNN⟩ : ∃ x : Int, (if nb = true then 1 else 0) = x := ⟨_, rfl⟩
        have hb1 : Below wr.heap.size wr (wr.alloc (.cells #[.int .u8 kq, .int .u8 0, .slice aq n c] 28)) := (Below.refl _ _).alloc (Nat.le_refl _) _
        have hA1 : Arr (wr.alloc (.cells #[.int .u8 kq, .int .u8 0, .slice aq n c] 28)) wr.heap.size 28 [.int .u8 kq, .int .u8 0, .slice aq n c] := arr_new _ _ _
        have hgot := got_any kq 0 aq n c zs (wr.alloc (.cells #[.int .u8 kq, .int .u8 0, .slice aq n c] 28)) (HR.out.1.below hb1) HR.out.2 hc (by omega)
        rw [hnb, hNN] at hgot
        have HGOT := Lib.hid hgot
        have H1 := Lib.hid (And.intro hb1 hA1)
        have HN := Lib.hid (And.intro hnb hNN)
        clear hr hz hcut hbl hb1 hA1 hgot hnb hNN
        obtain ⟨kk, hkk⟩ : ∃ kk : Nat, ct % ((n : Int) + 1) = (kk : Int) := ⟨(ct % ((n : Int) + 1)).toNat, (Int.toNat_of_nonneg (Int.emod_nonneg _ (by omega))).symm⟩
        have hkn : kk ≤ n := by have := Int.emod_lt_of_pos ct (show (0 : Int) < (n : Int) + 1 by omega); omega
        go_wp2_with fail
        refine HGOT.out.mono ?_
        rintro e w3 ⟨rfl, hb3⟩
        have HBX := Lib.hid (H1.out.2.keep hb3)
        have HB3 := Lib.hid (H1.out.1.trans (hb3.mono H1.out.1.size))
        clear hb3 H1 HGOT h0 h1 h2 hg
        have b0 := HBX.out.cell (i := 0) rfl
        have b1 := HBX.out.cell (i := 1) rfl
        have b2 := HBX.out.cell (i := 2) rfl
        obtain ⟨mb, hmb⟩ : ∃ b, okAny kq 0 (zs.take kk) = b := ⟨_, rfl⟩
        obtain ⟨M, hM⟩ : ∃ x : Int, (if mb = true then 1 else 0) = x := ⟨_, rfl⟩
        have HG2 := Lib.hid (show ∀ W, Below w3.heap.size w3 W → Calls Try.prog 47 #[.agg #[.int .u8 kq, .int .u8 0, .slice (cutA aq 0 c) kk c]] W fun e w' => e = .returned (.tuple #[.int .i64 M, .bool true]) ∧ Below W.heap.size W w' from fun W h => by have hh := got_any kq 0 (cutA aq 0 c) kk c (zs.take kk) W (reads_take ((HR.out.1.below HB3.out).below h) hkn hc) (HR.out.2.take _) (by omega) (by omega); rw [hmb, hM] at hh; exact hh)
        have HM := Lib.hid (And.intro hmb hM)
        clear hmb hM
        go_wp2_with fail
        clear b0 b1 b2
        generalize hgb : wr.heap.size = gb at *
        rw [hkk]
        clear hkk
        refine wp_region_any (by kernel_rfl) ?_
        refine Vals.wpAny_goodW (LCu w w3 kq M aq n c gb kk) (fun _ => (fun W => Below w3.heap.size w3 W)) [some 81, some 82, some 83, some 84, some 85, some 86, some 87, some 88, some 80, some 89, some 90, some 13, some 14] 179 _ _ rfl (by kernel_rfl) (by kernel_rfl) (by decide) ?step10 ?fin10 (Below.refl _ _).drew
        case step10 =>
          intro i o d ho hd listed a W hls hun hcl hJ hdf hdep hfr K hK
          match i, ho, hd with
          | 0, ho, hd =>
            have ho' := ho
            simp only [List.getElem?_toArray, List.getElem?_cons_zero, Option.some.injEq] at ho hd
            subst ho hd
            have r9 : a.eval (.tmp 9) = .pointer (some ⟨gb, 0, none⟩) := hfr 9 (by decide)
            rw [Vals.eval_tmp] at r9
            refine Vals.wpOp_run ho' rfl ?_
            clear hdep hfr ho' hdf hcl
            go_simp
            exact hK _ _ (fun _ _ h => h) hJ (fun _ => rfl)
          | 1, ho, hd =>
            have ho' := ho
            simp only [List.getElem?_toArray, List.getElem?_cons_zero, List.getElem?_cons_succ, Option.some.injEq] at ho hd
            subst ho hd
            have r81 : a.eval (.tmp 81) = .pointer (some ⟨gb, 0, none⟩) := (hdep ⟨0, .data⟩ (by simp) rfl).2 81 rfl
            rw [Vals.eval_tmp] at r81
            have c0 := (HBX.out.keep hJ).cell (i := 0) rfl
            refine Vals.wpOp_run ho' rfl ?_
            clear hdep hfr ho' hdf hcl
            go_simp
            exact hK _ _ (fun _ _ h => h) hJ (fun _ => rfl)
          | 2, ho, hd =>
            have ho' := ho
            simp only [List.getElem?_toArray, List.getElem?_cons_zero, List.getElem?_cons_succ, Option.some.injEq] at ho hd
            subst ho hd
            have r9 : a.eval (.tmp 9) = .pointer (some ⟨gb, 0, none⟩) := hfr 9 (by decide)
            rw [Vals.eval_tmp] at r9
            refine Vals.wpOp_run ho' rfl ?_
            clear hdep hfr ho' hdf hcl
            go_simp
            exact hK _ _ (fun _ _ h => h) hJ (fun _ => rfl)
          | 3, ho, hd =>
            have ho' := ho
            simp only [List.getElem?_toArray, List.getElem?_cons_zero, List.getElem?_cons_succ, Option.some.injEq] at ho hd
            subst ho hd
            have r83 : a.eval (.tmp 83) = .pointer (some ⟨gb, 2, none⟩) := (hdep ⟨2, .data⟩ (by simp) rfl).2 83 rfl
            rw [Vals.eval_tmp] at r83
            have c0 := (HBX.out.keep hJ).cell (i := 2) rfl
            refine Vals.wpOp_run ho' rfl ?_
            clear hdep hfr ho' hdf hcl
            go_simp
            exact hK _ _ (fun _ _ h => h) hJ (fun _ => rfl)
          | 4, ho, hd =>
            have ho' := ho
            simp only [List.getElem?_toArray, List.getElem?_cons_zero, List.getElem?_cons_succ, Option.some.injEq] at ho hd
            subst ho hd
            have r12 : a.eval (.tmp 12) = .int .i64 (kk : Int) := hfr 12 (by decide)
            rw [Vals.eval_tmp] at r12
            refine Vals.wpOp_run ho' rfl ?_
            clear hdep hfr ho' hdf hcl
            go_simp
            exact hK _ _ (fun _ _ h => h) hJ (fun _ => rfl)
          | 5, ho, hd =>
            have ho' := ho
            simp only [List.getElem?_toArray, List.getElem?_cons_zero, List.getElem?_cons_succ, Option.some.injEq] at ho hd
            subst ho hd
            have r84 : a.eval (.tmp 84) = .slice aq n c := (hdep ⟨3, .data⟩ (by simp) rfl).2 84 rfl
            rw [Vals.eval_tmp] at r84
            have r85 : a.eval (.tmp 85) = .int .i64 (kk : Int) := (hdep ⟨4, .data⟩ (by simp) rfl).2 85 rfl
            rw [Vals.eval_tmp] at r85
            have hct' := cut_h aq n c kk (by omega) W
            refine Vals.wpOp_run ho' rfl ?_
            clear hdep hfr ho' hdf hcl
            go_simp
            exact hK _ _ (fun _ _ h => h) hJ (fun _ => rfl)
          | 6, ho, hd =>
            have ho' := ho
            simp only [List.getElem?_toArray, List.getElem?_cons_zero, List.getElem?_cons_succ, Option.some.injEq] at ho hd
            subst ho hd
            have r82 : a.eval (.tmp 82) = .int .u8 kq := (hdep ⟨1, .data⟩ (by simp) rfl).2 82 rfl
            rw [Vals.eval_tmp] at r82
            have r86 : a.eval (.tmp 86) = .slice (cutA aq 0 c) kk c := (hdep ⟨5, .data⟩ (by simp) rfl).2 86 rfl
            rw [Vals.eval_tmp] at r86
            refine Vals.wpOp_run ho' rfl ?_
            clear hdep hfr ho' hdf hcl
            go_simp
            exact hK _ _ (fun _ _ h => h) hJ (fun _ => rfl)
          | 7, ho, hd =>
            have ho' := ho
            simp only [List.getElem?_toArray, List.getElem?_cons_zero, List.getElem?_cons_succ, Option.some.injEq] at ho hd
            subst ho hd
            have r87 : a.eval (.tmp 87) = .agg #[.int .u8 kq, .int .u8 0, .slice (cutA aq 0 c) kk c] := (hdep ⟨6, .data⟩ (by simp) rfl).2 87 rfl
            rw [Vals.eval_tmp] at r87
            refine Vals.wpOp_run ho' rfl ?_
            clear hdep hfr ho' hdf hcl
            go_simp
            refine (HG2.out W hJ).mono ?_
            rintro e w' ⟨rfl, hb3⟩
            exact hK _ _ (LCu_mono hb3) (hJ.trans (hb3.mono hJ.size)) (fun _ => rfl)
          | 8, ho, hd =>
            have ho' := ho
            simp only [List.getElem?_toArray, List.getElem?_cons_zero, List.getElem?_cons_succ, Option.some.injEq] at ho hd
            subst ho hd
            have r88 : a.eval (.tmp 88) = .tuple #[.int .i64 M, .bool true] := (hdep ⟨7, .data⟩ (by simp) rfl).2 88 rfl
            rw [Vals.eval_tmp] at r88
            refine Vals.wpOp_run ho' rfl ?_
            clear hdep hfr ho' hdf hcl
            go_simp
            exact hK _ _ (fun _ _ h => h) hJ (fun _ => rfl)
          | 9, ho, hd =>
            have ho' := ho
            simp only [List.getElem?_toArray, List.getElem?_cons_zero, List.getElem?_cons_succ, Option.some.injEq] at ho hd
            subst ho hd
            have r80 : a.eval (.tmp 80) = .tuple #[.int .i64 M, .bool true] := (hdep ⟨8, .data⟩ (by simp) rfl).2 80 rfl
            rw [Vals.eval_tmp] at r80
            refine Vals.wpOp_run ho' rfl ?_
            clear hdep hfr ho' hdf hcl
            go_simp
            exact hK _ _ (fun _ _ h => h) hJ (fun _ => rfl)
          | 10, ho, hd =>
            have ho' := ho
            simp only [List.getElem?_toArray, List.getElem?_cons_zero, List.getElem?_cons_succ, Option.some.injEq] at ho hd
            subst ho hd
            have r80 : a.eval (.tmp 80) = .tuple #[.int .i64 M, .bool true] := (hdep ⟨8, .data⟩ (by simp) rfl).2 80 rfl
            rw [Vals.eval_tmp] at r80
            refine Vals.wpOp_run ho' rfl ?_
            clear hdep hfr ho' hdf hcl
            go_simp
            exact hK _ _ (fun _ _ h => h) hJ (fun _ => rfl)
          | 11, ho, hd =>
            have ho' := ho
            simp only [List.getElem?_toArray, List.getElem?_cons_zero, List.getElem?_cons_succ, Option.some.injEq] at ho hd
            subst ho hd
            have r89 : a.eval (.tmp 89) = .int .i64 M := (hdep ⟨9, .data⟩ (by simp) rfl).2 89 rfl
            rw [Vals.eval_tmp] at r89
            refine Vals.wpOp_run ho' rfl ?_
            clear hdep hfr ho' hdf hcl
            go_simp
            exact hK _ _ (fun _ _ h => h) hJ (fun _ => rfl)
          | 12, ho, hd =>
            have ho' := ho
            simp only [List.getElem?_toArray, List.getElem?_cons_zero, List.getElem?_cons_succ, Option.some.injEq] at ho hd
            subst ho hd
            have r90 : a.eval (.tmp 90) = .bool true := (hdep ⟨10, .data⟩ (by simp) rfl).2 90 rfl
            rw [Vals.eval_tmp] at r90
            refine Vals.wpOp_run ho' rfl ?_
            clear hdep hfr ho' hdf hcl
            go_simp
            exact hK _ _ (fun _ _ h => h) hJ (fun _ => rfl)
          | i + 13, ho, hd => simp at ho
        case fin10 =>
          intro listed W fq2 hall hJ hG
          have q0 : fq2 81 = .pointer (some ⟨gb, 0, none⟩) := hG 0 81 rfl
          have q1 : fq2 82 = .int .u8 kq := hG 1 82 rfl
          have q2 : fq2 83 = .pointer (some ⟨gb, 2, none⟩) := hG 2 83 rfl
          have q3 : fq2 84 = .slice aq n c := hG 3 84 rfl
          have q4 : fq2 85 = .int .i64 (kk : Int) := hG 4 85 rfl
          have q5 : fq2 86 = .slice (cutA aq 0 c) kk c := hG 5 86 rfl
          have q6 : fq2 87 = .agg #[.int .u8 kq, .int .u8 0, .slice (cutA aq 0 c) kk c] := hG 6 87 rfl
          have q7 : fq2 88 = .tuple #[.int .i64 M, .bool true] := hG 7 88 rfl
          have q8 : fq2 80 = .tuple #[.int .i64 M, .bool true] := hG 8 80 rfl
          have q9 : fq2 89 = .int .i64 M := hG 9 89 rfl
          have q10 : fq2 90 = .bool true := hG 10 90 rfl
          have q11 : fq2 13 = .int .i64 M := hG 11 13 rfl
          have q12 : fq2 14 = .bool true := hG 12 14 rfl
          clear hG hall
          simp only [Vals.puts, Vals.pairs, List.filterMap_cons, List.filterMap_nil, id, List.map_cons, List.map_nil, List.foldl_cons, List.foldl_nil, q0, q1, q2, q3, q4, q5, q6, q7, q8, q9, q10, q11, q12]
          clear q0 q1 q2 q3 q4 q5 q6 q7 q8 q9 q10 q11 q12
          go_frame
          have HB4 := Lib.hid hJ
          have HBX4 := Lib.hid (HBX.out.keep hJ)
          have HB34 := Lib.hid (Below.trans HB3.out (hJ.mono (by have := HB3.out.size; omega)))
          clear hJ HG2 HB4 HBX HB3
          generalize W = w4 at *
          have hcu := HCU.out
          obtain ⟨wh, hwh⟩ : ∃ b, wholeB kq n kk = b := ⟨_, rfl⟩
          have hw1 : mb = true → wh = true := fun h => by rw [← hwh, ← hzl]; exact hcu.cut kk (by omega) (HM.out.1.trans h)
          have hw2 : wh = true → mb = nb := fun h => by rw [← HM.out.1, ← HN.out.1]; exact hcu.whole kk (by omega) (by rw [hzl, hwh]; exact h)
          have HW := Lib.hid (And.intro hw1 hw2)
          have HWH := Lib.hid hwh
          clear hcu hw1 hw2 hwh
          have b0 := HBX4.out.cell (i := 0) rfl
          have b1 := HBX4.out.cell (i := 1) rfl
          have b2 := HBX4.out.cell (i := 2) rfl
          go_upto_if 98 with fail
          go_cut [15] from 99 to 105 (fun s wx => s = .bool wh ∧ Below w4.heap.size w4 wx)
          case first =>
            by_cases hK : kq = 192
            · have hk1 : (kq == 192) = true := by simpa using hK
              have hwe : wh = (decide (4 ≤ kk) && decide (kk % 4 = 0)) := by rw [← HWH.out]; unfold wholeB; rw [if_pos hK]
              have HWE := Lib.hid hwe
              clear hwe hK HWH
              by_cases h4 : 4 ≤ kk
              · have h4i : (4 : Int) ≤ (kk : Int) := by omega
                by_cases h44 : kk % 4 = 0
                · have hq : ((kk : Int) % 4 == 0) = true := by simp; omega
                  go_wp2_with fail
                  go_meet
                  case rel => exact ⟨congrArg Value.bool (by rw [HWE.out]; simp [h4, h44]), Below.refl _ _⟩
                · have hq : ((kk : Int) % 4 == 0) = false := by simp; omega
                  go_wp2_with fail
                  go_meet
                  case rel => exact ⟨congrArg Value.bool (by rw [HWE.out]; simp [h44]), Below.refl _ _⟩
              · have h4i : decide ((4 : Int) ≤ (kk : Int)) = false := by simp; omega
                go_wp2_with fail
                go_meet
                case rel => exact ⟨congrArg Value.bool (by rw [HWE.out]; simp [h4]), Below.refl _ _⟩
            · have hk1 : (kq == 192) = false := by simpa using hK
              have hwe : wh = decide (kk = n) := by rw [← HWH.out]; unfold wholeB; rw [if_neg hK]
              have HWE := Lib.hid hwe
              clear hwe hK HWH
              by_cases he : kk = n
              · have hq : ((kk : Int) == (n : Int)) = true := by simp; omega
                have HE2 := Lib.hid he
                clear he
                go_wp2_with fail
                go_meet
                case rel => exact ⟨congrArg Value.bool (by rw [HWE.out]; simp [HE2.out]), Below.refl _ _⟩
              · have hq : ((kk : Int) == (n : Int)) = false := by simp; omega
                go_wp2_with fail
                go_meet
                case rel => exact ⟨congrArg Value.bool (by rw [HWE.out]; simp [he] <;> omega), Below.refl _ _⟩
          case rest =>
          obtain ⟨rfl, hbx⟩ := hcut
          have HB5 := Lib.hid (HB34.out.trans (hbx.mono (by have := HB34.out.size; omega)))
          have HBX5 := Lib.hid (HBX4.out.keep hbx)
          clear hbx HB34 HBX4 b0 b1 b2 HWH
          go_upto_region 14 with fail
          go_cut [119] from 106 to 119 (fun s wx => s = .bool false ∧ Below wc.heap.size wc wx)
          case first =>
            have hw := HW.out
            have hMM := HM.out.2
            have hNN := HN.out.2
            clear HW HM HN
            cases wh with
            | true =>
              obtain rfl := hw.2 rfl
              clear hw
              cases mb with
              | true =>
                simp at hMM hNN
                subst hMM hNN
                go_wp2_with fail
                go_meet
                case rel => exact ⟨rfl, Below.refl _ _⟩
              | false =>
                simp at hMM hNN
                subst hMM hNN
                go_wp2_with fail
                go_meet
                case rel => exact ⟨rfl, Below.refl _ _⟩
            | false =>
              cases mb with
              | true => cases hw.1 rfl
              | false =>
                clear hw
                simp at hMM
                subst hMM
                go_wp2_with fail
                go_meet
                case rel => exact ⟨rfl, Below.refl _ _⟩
          case rest =>
          obtain ⟨rfl, hbx⟩ := hcut
          have HB6 := Lib.hid (HB5.out.trans (hbx.mono (by have := HB5.out.size; omega)))
          have HBX6 := Lib.hid (HBX5.out.keep hbx)
          clear hbx HB5 HBX5 HW HM
          have b0 := HBX6.out.cell (i := 0) rfl
          have b1 := HBX6.out.cell (i := 1) rfl
          have b2 := HBX6.out.cell (i := 2) rfl
          have hgf := got_any kq fl aq n c zs wc (HR.out.1.below (by rw [hgb]; exact HB6.out)) HR.out.2 hc (by omega)
          obtain ⟨hb', hhb⟩ : ∃ b, okAny kq fl zs = b := ⟨_, rfl⟩
          obtain ⟨HH, hHH⟩ : ∃ x : Int, (if hb' = true then 1 else 0) = x := ⟨_, rfl⟩
          rw [hhb, hHH] at hgf
          have HGF := Lib.hid hgf
          have HHB := Lib.hid (And.intro hhb hHH)
          clear hgf hhb hHH
          go_wp2_with fail
          refine HGF.out.mono ?_
          rintro e w9 ⟨rfl, hb9⟩
          have HB9 := Lib.hid (HB6.out.trans (hb9.mono (by have := HB6.out.size; omega)))
          clear hb9 HGF HB6 HBX6 b0 b1 b2
          go_upto_region 17 with fail
          go_cut [144] from 130 to 144 (fun s wx => s = .bool false ∧ Below w9.heap.size w9 wx)
          case first =>
            have hN1 := HN.out.1
            have hN2 := HN.out.2
            have hH1 := HHB.out.1
            have hH2 := HHB.out.2
            have hfl := HCU.out.flag fl
            clear HN HHB HCU HR
            by_cases hz0 : fl = 0
            · subst hz0
              rw [hN1] at hH1
              subst hH1
              rw [hN2] at hH2
              subst hH2
              clear hN1 hN2 hfl
              go_wp2_with fail
              go_meet
              case rel => exact ⟨rfl, Below.refl _ _⟩
            · rw [hfl hz0] at hH1
              subst hH1
              simp at hH2
              subst hH2
              have hz1 : (fl == 0) = false := by simpa using hz0
              have hz2 : (fl != 0) = true := by simpa using hz0
              clear hz0 hfl hN1 hN2
              go_wp2_with fail
              go_meet
              case rel => exact ⟨rfl, Below.refl _ _⟩
          case rest =>
          obtain ⟨rfl, hbx⟩ := hcut
          have HB10 := Lib.hid (HBL.out.trans ((HB9.out.trans (hbx.mono (by have := HB9.out.size; omega))).mono (by have := HBL.out.size; omega)))
          clear hbx HB9
          go_wp2
          exact ⟨⟨j + 1, by omega, congrArg (Value.int .i64) (by omega), HB10.out⟩, by simp [intOf]; omega⟩
      · have hj1 : ¬ (j : Int) < 5 := by omega
        have HBr := Lib.hid (HB2.out.trans (HBL.out.mono HB2.out.size))
        have HXr := Lib.hid (HX2.out.keep HBL.out)
        clear HBL HB2 HX2 HE
        have c0 := HXr.out.cell (i := 0) rfl
        have c1 := HXr.out.cell (i := 1) rfl
        have c2 := HXr.out.cell (i := 2) rfl
        have c3 := HXr.out.cell (i := 3) rfl
        have c4 := HXr.out.cell (i := 4) rfl
        have c5 := HXr.out.cell (i := 5) rfl
        have c6 := HXr.out.cell (i := 6) rfl
        have c7 := HXr.out.cell (i := 7) rfl
        have c8 := HXr.out.cell (i := 8) rfl
        have c9 := HXr.out.cell (i := 9) rfl
        have c10 := HXr.out.cell (i := 10) rfl
        have c11 := HXr.out.cell (i := 11) rfl
        have c12 := HXr.out.cell (i := 12) rfl
        have c13 := HXr.out.cell (i := 13) rfl
        have c14 := HXr.out.cell (i := 14) rfl
        have c15 := HXr.out.cell (i := 15) rfl
        have c16 := HXr.out.cell (i := 16) rfl
        have c17 := HXr.out.cell (i := 17) rfl
        have c18 := HXr.out.cell (i := 18) rfl
        have c19 := HXr.out.cell (i := 19) rfl
        have c20 := HXr.out.cell (i := 20) rfl
        have c21 := HXr.out.cell (i := 21) rfl
        have HP := Lib.hid (pputData d0 d1 d2 d3 d4 d5 da dn dk dz wr (HD.out.1.below HBr.out) (by omega) ld0 hd0 ld1 hd1 ld2 hd2)
        go_wp2_with fail
        refine HP.out.mono ?_
        rintro e w6 ⟨pd, qd, rfl, hb6, hr6⟩
        clear HP c0 c1 c2 c3 c4 c5 c6 c7 c8 c9 c10 c11 c12 c13 c14 c15 c16 c17 c18 c19 c20 c21
        have hdl : (dataB d0 d1 d2 dz).length ≤ 8204 := by have hl := HD.out.1.1; rw [dataB_len]; omega
        obtain ⟨LD, hLD⟩ : ∃ LD, LD = (dataB d0 d1 d2 dz).length := ⟨_, rfl⟩
        rw [← hLD] at hr6 hdl ⊢
        have HLD := Lib.hid hLD
        clear hLD
        go_upto_region 20 with fail
        have hbv : Below w6.heap.size w6 (w6.alloc (.cells #[.int .u8 0, .int .u8 (dflags d3 d4 d5), .slice pd LD qd] 28)) := (Below.refl _ _).alloc (Nat.le_refl _) _
        have hAv : Arr (w6.alloc (.cells #[.int .u8 0, .int .u8 (dflags d3 d4 d5), .slice pd LD qd] 28)) w6.heap.size 28 [.int .u8 0, .int .u8 (dflags d3 d4 d5), .slice pd LD qd] := arr_new _ _ _
        have HB7 := Lib.hid (HBr.out.trans ((hb6.trans (hbv.mono hb6.size)).mono HBr.out.size))
        have HBD := Lib.hid hAv
        have HRD := Lib.hid (And.intro (hr6.reads.below hbv) (And.intro hr6.le HLD.out))
        clear hbv hAv hb6 hr6 HBr HXr
        generalize (w6.alloc (.cells #[.int .u8 0, .int .u8 (dflags d3 d4 d5), .slice pd LD qd] 28)) = w7 at HB7 HBD HRD ⊢
        generalize w6.heap.size = gd at HBD ⊢
        obtain ⟨kd, hkd⟩ : ∃ kd : Nat, ct % ((LD : Int) + 1) = (kd : Int) := ⟨(ct % ((LD : Int) + 1)).toNat, (Int.toNat_of_nonneg (Int.emod_nonneg _ (by omega))).symm⟩
        have hkn : kd ≤ LD := by have := Int.emod_lt_of_pos ct (show (0 : Int) < (LD : Int) + 1 by omega); omega
        obtain ⟨er, her⟩ : ∃ er : Int, (if (decide (fl < 8) && decide (12 < kd)) = true then 0 else 7) = er := ⟨_, rfl⟩
        have hqd : LD ≤ qd := HRD.out.2.1
        have HGD := Lib.hid (show ∀ W, Below w7.heap.size w7 W → Calls Try.prog 16 #[.agg #[.int .u8 0, .int .u8 fl, .slice (cutA pd 0 qd) kd qd]] W fun e w' => ∃ X0 X1 X2 X3 X4 X5 a1 m1 c1, e = .returned (.tuple #[.agg #[.int .u32 X0, .int .u16 X1, .int .u16 X2, .bool X3, .bool X4, .bool X5, .slice a1 m1 c1], .int .i64 er]) ∧ Below W.heap.size W w' from fun W h => (pgetData 0 fl (cutA pd 0 qd) kd qd ((dataB d0 d1 d2 dz).take kd) W (reads_take (HRD.out.1.below h) hkn hqd) ((dataB_byt d0 d1 d2 HD.out.2.1).take _) (by omega) (by omega)).mono (fun e w' hg => by have h2 := hg.er; rw [okData_cut 0 ld0 hd0 ld1 hd1 ld2 hd2 lfl hfl (by rw [← HRD.out.2.2]; exact hkn), her] at h2; exact h2))
        have HER := Lib.hid her
        clear her HLD
        have b0 := HBD.out.cell (i := 0) rfl
        have b1 := HBD.out.cell (i := 1) rfl
        have b2 := HBD.out.cell (i := 2) rfl
        go_wp2_with fail
        clear b0 b1 b2
        rw [hkd]
        clear hkd
        refine wp_region_any (by kernel_rfl) ?_
        refine Vals.wpAny_goodW (LCv w w7 d3 d4 d5 fl er pd LD qd gd kd) (fun _ => (fun W => Below w7.heap.size w7 W)) [some 156, some 157, some 158, some 159, some 160, some 161, some 162, some 163, some 164, some 155, some 165, some 166, some 20, none, some 21] 179 _ _ rfl (by kernel_rfl) (by kernel_rfl) (by decide) ?step21 ?fin21 (Below.refl _ _).drew
        case step21 =>
          intro i o d ho hd listed a W hls hun hcl hJ hdf hdep hfr K hK
          match i, ho, hd with
          | 0, ho, hd =>
            have ho' := ho
            simp only [List.getElem?_toArray, List.getElem?_cons_zero, Option.some.injEq] at ho hd
            subst ho hd
            have r18 : a.eval (.tmp 18) = .pointer (some ⟨gd, 0, none⟩) := hfr 18 (by decide)
            rw [Vals.eval_tmp] at r18
            refine Vals.wpOp_run ho' rfl ?_
            clear hdep hfr ho' hdf hcl
            go_simp
            exact hK _ _ (fun _ _ h => h) hJ (fun _ => rfl)
          | 1, ho, hd =>
            have ho' := ho
            simp only [List.getElem?_toArray, List.getElem?_cons_zero, List.getElem?_cons_succ, Option.some.injEq] at ho hd
            subst ho hd
            have r156 : a.eval (.tmp 156) = .pointer (some ⟨gd, 0, none⟩) := (hdep ⟨0, .data⟩ (by simp) rfl).2 156 rfl
            rw [Vals.eval_tmp] at r156
            have c0 := (HBD.out.keep hJ).cell (i := 0) rfl
            refine Vals.wpOp_run ho' rfl ?_
            clear hdep hfr ho' hdf hcl
            go_simp
            exact hK _ _ (fun _ _ h => h) hJ (fun _ => rfl)
          | 2, ho, hd =>
            have ho' := ho
            simp only [List.getElem?_toArray, List.getElem?_cons_zero, List.getElem?_cons_succ, Option.some.injEq] at ho hd
            subst ho hd
            have r2 : a.eval (.tmp 2) = .int .u8 fl := hfr 2 (by decide)
            rw [Vals.eval_tmp] at r2
            refine Vals.wpOp_run ho' rfl ?_
            clear hdep hfr ho' hdf hcl
            go_simp
            exact hK _ _ (fun _ _ h => h) hJ (fun _ => rfl)
          | 3, ho, hd =>
            have ho' := ho
            simp only [List.getElem?_toArray, List.getElem?_cons_zero, List.getElem?_cons_succ, Option.some.injEq] at ho hd
            subst ho hd
            have r18 : a.eval (.tmp 18) = .pointer (some ⟨gd, 0, none⟩) := hfr 18 (by decide)
            rw [Vals.eval_tmp] at r18
            refine Vals.wpOp_run ho' rfl ?_
            clear hdep hfr ho' hdf hcl
            go_simp
            exact hK _ _ (fun _ _ h => h) hJ (fun _ => rfl)
          | 4, ho, hd =>
            have ho' := ho
            simp only [List.getElem?_toArray, List.getElem?_cons_zero, List.getElem?_cons_succ, Option.some.injEq] at ho hd
            subst ho hd
            have r159 : a.eval (.tmp 159) = .pointer (some ⟨gd, 2, none⟩) := (hdep ⟨3, .data⟩ (by simp) rfl).2 159 rfl
            rw [Vals.eval_tmp] at r159
            have c0 := (HBD.out.keep hJ).cell (i := 2) rfl
            refine Vals.wpOp_run ho' rfl ?_
            clear hdep hfr ho' hdf hcl
            go_simp
            exact hK _ _ (fun _ _ h => h) hJ (fun _ => rfl)
          | 5, ho, hd =>
            have ho' := ho
            simp only [List.getElem?_toArray, List.getElem?_cons_zero, List.getElem?_cons_succ, Option.some.injEq] at ho hd
            subst ho hd
            have r19 : a.eval (.tmp 19) = .int .i64 (kd : Int) := hfr 19 (by decide)
            rw [Vals.eval_tmp] at r19
            refine Vals.wpOp_run ho' rfl ?_
            clear hdep hfr ho' hdf hcl
            go_simp
            exact hK _ _ (fun _ _ h => h) hJ (fun _ => rfl)
          | 6, ho, hd =>
            have ho' := ho
            simp only [List.getElem?_toArray, List.getElem?_cons_zero, List.getElem?_cons_succ, Option.some.injEq] at ho hd
            subst ho hd
            have r160 : a.eval (.tmp 160) = .slice pd LD qd := (hdep ⟨4, .data⟩ (by simp) rfl).2 160 rfl
            rw [Vals.eval_tmp] at r160
            have r161 : a.eval (.tmp 161) = .int .i64 (kd : Int) := (hdep ⟨5, .data⟩ (by simp) rfl).2 161 rfl
            rw [Vals.eval_tmp] at r161
            have hct' := cut_h pd LD qd kd (by omega) W
            refine Vals.wpOp_run ho' rfl ?_
            clear hdep hfr ho' hdf hcl
            go_simp
            exact hK _ _ (fun _ _ h => h) hJ (fun _ => rfl)
          | 7, ho, hd =>
            have ho' := ho
            simp only [List.getElem?_toArray, List.getElem?_cons_zero, List.getElem?_cons_succ, Option.some.injEq] at ho hd
            subst ho hd
            have r157 : a.eval (.tmp 157) = .int .u8 0 := (hdep ⟨1, .data⟩ (by simp) rfl).2 157 rfl
            rw [Vals.eval_tmp] at r157
            have r158 : a.eval (.tmp 158) = .int .u8 fl := (hdep ⟨2, .data⟩ (by simp) rfl).2 158 rfl
            rw [Vals.eval_tmp] at r158
            have r162 : a.eval (.tmp 162) = .slice (cutA pd 0 qd) kd qd := (hdep ⟨6, .data⟩ (by simp) rfl).2 162 rfl
            rw [Vals.eval_tmp] at r162
            refine Vals.wpOp_run ho' rfl ?_
            clear hdep hfr ho' hdf hcl
            go_simp
            exact hK _ _ (fun _ _ h => h) hJ (fun _ => rfl)
          | 8, ho, hd =>
            have ho' := ho
            simp only [List.getElem?_toArray, List.getElem?_cons_zero, List.getElem?_cons_succ, Option.some.injEq] at ho hd
            subst ho hd
            have r163 : a.eval (.tmp 163) = .agg #[.int .u8 0, .int .u8 fl, .slice (cutA pd 0 qd) kd qd] := (hdep ⟨7, .data⟩ (by simp) rfl).2 163 rfl
            rw [Vals.eval_tmp] at r163
            refine Vals.wpOp_run ho' rfl ?_
            clear hdep hfr ho' hdf hcl
            go_simp
            refine (HGD.out W hJ).mono ?_
            rintro e w' ⟨X0, X1, X2, X3, X4, X5, a1, m1, c1, rfl, hb3⟩
            exact hK _ _ (LCv_mono hb3) (hJ.trans (hb3.mono hJ.size)) (fun _ => ⟨_, _, _, _, _, _, _, _, _, rfl⟩)
          | 9, ho, hd =>
            have ho' := ho
            simp only [List.getElem?_toArray, List.getElem?_cons_zero, List.getElem?_cons_succ, Option.some.injEq] at ho hd
            subst ho hd
            have g164 : ∃ X0_164 X1_164 X2_164 X3_164 X4_164 X5_164 a1_164 m1_164 c1_164, a.eval (.tmp 164) = .tuple #[.agg #[.int .u32 X0_164, .int .u16 X1_164, .int .u16 X2_164, .bool X3_164, .bool X4_164, .bool X5_164, .slice a1_164 m1_164 c1_164], .int .i64 er] := (hdep ⟨8, .data⟩ (by simp) rfl).2 164 rfl
            rw [Vals.eval_tmp] at g164
            obtain ⟨X0_164, X1_164, X2_164, X3_164, X4_164, X5_164, a1_164, m1_164, c1_164, r164⟩ := g164
            refine Vals.wpOp_run ho' rfl ?_
            clear hdep hfr ho' hdf hcl
            go_simp
            exact hK _ _ (fun _ _ h => h) hJ (fun _ => ⟨_, _, _, _, _, _, _, _, _, rfl⟩)
          | 10, ho, hd =>
            have ho' := ho
            simp only [List.getElem?_toArray, List.getElem?_cons_zero, List.getElem?_cons_succ, Option.some.injEq] at ho hd
            subst ho hd
            have g155 : ∃ X0_155 X1_155 X2_155 X3_155 X4_155 X5_155 a1_155 m1_155 c1_155, a.eval (.tmp 155) = .tuple #[.agg #[.int .u32 X0_155, .int .u16 X1_155, .int .u16 X2_155, .bool X3_155, .bool X4_155, .bool X5_155, .slice a1_155 m1_155 c1_155], .int .i64 er] := (hdep ⟨9, .data⟩ (by simp) rfl).2 155 rfl
            rw [Vals.eval_tmp] at g155
            obtain ⟨X0_155, X1_155, X2_155, X3_155, X4_155, X5_155, a1_155, m1_155, c1_155, r155⟩ := g155
            refine Vals.wpOp_run ho' rfl ?_
            clear hdep hfr ho' hdf hcl
            go_simp
            exact hK _ _ (fun _ _ h => h) hJ (fun _ => ⟨_, _, _, _, _, _, _, _, _, rfl⟩)
          | 11, ho, hd =>
            have ho' := ho
            simp only [List.getElem?_toArray, List.getElem?_cons_zero, List.getElem?_cons_succ, Option.some.injEq] at ho hd
            subst ho hd
            have g155 : ∃ X0_155 X1_155 X2_155 X3_155 X4_155 X5_155 a1_155 m1_155 c1_155, a.eval (.tmp 155) = .tuple #[.agg #[.int .u32 X0_155, .int .u16 X1_155, .int .u16 X2_155, .bool X3_155, .bool X4_155, .bool X5_155, .slice a1_155 m1_155 c1_155], .int .i64 er] := (hdep ⟨9, .data⟩ (by simp) rfl).2 155 rfl
            rw [Vals.eval_tmp] at g155
            obtain ⟨X0_155, X1_155, X2_155, X3_155, X4_155, X5_155, a1_155, m1_155, c1_155, r155⟩ := g155
            refine Vals.wpOp_run ho' rfl ?_
            clear hdep hfr ho' hdf hcl
            go_simp
            exact hK _ _ (fun _ _ h => h) hJ (fun _ => rfl)
          | 12, ho, hd =>
            have ho' := ho
            simp only [List.getElem?_toArray, List.getElem?_cons_zero, List.getElem?_cons_succ, Option.some.injEq] at ho hd
            subst ho hd
            refine Vals.wpOp_run ho' rfl ?_
            clear hdep hfr ho' hdf hcl
            go_simp
            have hb3 : Below W.heap.size W (W.alloc (.cells #[.int .u32 0, .int .u16 0, .int .u16 0, .bool false, .bool false, .bool false, .slice none 0 0] 26)) := (Below.refl _ _).alloc (Nat.le_refl _) _
            exact hK _ _ (LCv_mono hb3) (hJ.trans (hb3.mono hJ.size)) (fun _ => ⟨_, rfl, hJ.size, ⟨_, _, _, _, _, _, _, arr_new _ _ _⟩⟩)
          | 13, ho, hd =>
            have ho' := ho
            simp only [List.getElem?_toArray, List.getElem?_cons_zero, List.getElem?_cons_succ, Option.some.injEq] at ho hd
            subst ho hd
            have g20 : ∃ gn_20, a.eval (.tmp 20) = .pointer (some ⟨gn_20, 0, none⟩) ∧ w7.heap.size ≤ gn_20 ∧ HasRow W gn_20 := (hdep ⟨12, .data⟩ (by simp) rfl).2 20 rfl
            rw [Vals.eval_tmp] at g20
            obtain ⟨gn_20, r20, h20_0, h20_1⟩ := g20
            have g165 : ∃ X0_165 X1_165 X2_165 X3_165 X4_165 X5_165 a1_165 m1_165 c1_165, a.eval (.tmp 165) = .agg #[.int .u32 X0_165, .int .u16 X1_165, .int .u16 X2_165, .bool X3_165, .bool X4_165, .bool X5_165, .slice a1_165 m1_165 c1_165] := (hdep ⟨10, .data⟩ (by simp) rfl).2 165 rfl
            rw [Vals.eval_tmp] at g165
            obtain ⟨X0_165, X1_165, X2_165, X3_165, X4_165, X5_165, a1_165, m1_165, c1_165, r165⟩ := g165
            refine Vals.wpOp_run ho' rfl ?_
            clear hdep hfr ho' hdf hcl
            obtain ⟨z0, z1, z2, z3, z4, z5, z6, hzz⟩ := h20_1
            have hq20 := h20_0
            have fr0 := hzz.free 0
            have fr1 := hzz.free 1
            have fr2 := hzz.free 2
            have fr3 := hzz.free 3
            have fr4 := hzz.free 4
            have fr5 := hzz.free 5
            have fr6 := hzz.free 6
            have y0 := hzz.cell (i := 0) rfl
            have y1 := hzz.cell (i := 1) rfl
            have y2 := hzz.cell (i := 2) rfl
            have y3 := hzz.cell (i := 3) rfl
            have y4 := hzz.cell (i := 4) rfl
            have y5 := hzz.cell (i := 5) rfl
            have y6 := hzz.cell (i := 6) rfl
            go_simp
            exact hK (.slice none 0 0) _ (fun j x h => LCv_set (LCv_set (LCv_set (LCv_set (LCv_set (LCv_set (LCv_set h)))))))  (((((((hJ.setCell (p := ⟨gn_20, 0, none⟩) hq20 (.int .u32 X0_165)).setCell (p := ⟨gn_20, 1, none⟩) hq20 (.int .u16 X1_165)).setCell (p := ⟨gn_20, 2, none⟩) hq20 (.int .u16 X2_165)).setCell (p := ⟨gn_20, 3, none⟩) hq20 (.bool X3_165)).setCell (p := ⟨gn_20, 4, none⟩) hq20 (.bool X4_165)).setCell (p := ⟨gn_20, 5, none⟩) hq20 (.bool X5_165)).setCell (p := ⟨gn_20, 6, none⟩) hq20 (.slice a1_165 m1_165 c1_165)) (fun h => by cases h)
          | 14, ho, hd =>
            have ho' := ho
            simp only [List.getElem?_toArray, List.getElem?_cons_zero, List.getElem?_cons_succ, Option.some.injEq] at ho hd
            subst ho hd
            have r166 : a.eval (.tmp 166) = .int .i64 er := (hdep ⟨11, .data⟩ (by simp) rfl).2 166 rfl
            rw [Vals.eval_tmp] at r166
            refine Vals.wpOp_run ho' rfl ?_
            clear hdep hfr ho' hdf hcl
            go_simp
            exact hK _ _ (fun _ _ h => h) hJ (fun _ => rfl)
          | i + 15, ho, hd => simp at ho
        case fin21 =>
          intro listed W fq3 hall hJ hG
          have q0 : fq3 156 = .pointer (some ⟨gd, 0, none⟩) := hG 0 156 rfl
          have q1 : fq3 157 = .int .u8 0 := hG 1 157 rfl
          have q2 : fq3 158 = .int .u8 fl := hG 2 158 rfl
          have q3 : fq3 159 = .pointer (some ⟨gd, 2, none⟩) := hG 3 159 rfl
          have q4 : fq3 160 = .slice pd LD qd := hG 4 160 rfl
          have q5 : fq3 161 = .int .i64 (kd : Int) := hG 5 161 rfl
          have q6 : fq3 162 = .slice (cutA pd 0 qd) kd qd := hG 6 162 rfl
          have q7 : fq3 163 = .agg #[.int .u8 0, .int .u8 fl, .slice (cutA pd 0 qd) kd qd] := hG 7 163 rfl
          obtain ⟨X0_164, X1_164, X2_164, X3_164, X4_164, X5_164, a1_164, m1_164, c1_164, q8⟩ : ∃ X0_164 X1_164 X2_164 X3_164 X4_164 X5_164 a1_164 m1_164 c1_164, fq3 164 = .tuple #[.agg #[.int .u32 X0_164, .int .u16 X1_164, .int .u16 X2_164, .bool X3_164, .bool X4_164, .bool X5_164, .slice a1_164 m1_164 c1_164], .int .i64 er] := hG 8 164 rfl
          obtain ⟨X0_155, X1_155, X2_155, X3_155, X4_155, X5_155, a1_155, m1_155, c1_155, q9⟩ : ∃ X0_155 X1_155 X2_155 X3_155 X4_155 X5_155 a1_155 m1_155 c1_155, fq3 155 = .tuple #[.agg #[.int .u32 X0_155, .int .u16 X1_155, .int .u16 X2_155, .bool X3_155, .bool X4_155, .bool X5_155, .slice a1_155 m1_155 c1_155], .int .i64 er] := hG 9 155 rfl
          obtain ⟨X0_165, X1_165, X2_165, X3_165, X4_165, X5_165, a1_165, m1_165, c1_165, q10⟩ : ∃ X0_165 X1_165 X2_165 X3_165 X4_165 X5_165 a1_165 m1_165 c1_165, fq3 165 = .agg #[.int .u32 X0_165, .int .u16 X1_165, .int .u16 X2_165, .bool X3_165, .bool X4_165, .bool X5_165, .slice a1_165 m1_165 c1_165] := hG 10 165 rfl
          have q11 : fq3 166 = .int .i64 er := hG 11 166 rfl
          obtain ⟨gn_20, q12, hq20_0, hq20_1⟩ : ∃ gn_20, fq3 20 = .pointer (some ⟨gn_20, 0, none⟩) ∧ w7.heap.size ≤ gn_20 ∧ HasRow W gn_20 := hG 12 20 rfl
          have q14 : fq3 21 = .int .i64 er := hG 14 21 rfl
          clear hG hall
          simp only [Vals.puts, Vals.pairs, List.filterMap_cons, List.filterMap_nil, id, List.map_cons, List.map_nil, List.foldl_cons, List.foldl_nil, q0, q1, q2, q3, q4, q5, q6, q7, q8, q9, q10, q11, q12, q14]
          clear q0 q1 q2 q3 q4 q5 q6 q7 q8 q9 q10 q11 q12 q14
          go_frame
          have hjw : Below w7.heap.size w7 W := hJ
          have HB8 := Lib.hid (HB7.out.trans (hjw.mono HB7.out.size))
          clear hJ hjw HB7 HBD HRD HGD HD HI HS HF
          have her := HER.out
          clear HER
          by_cases h8 : fl < 8
          · by_cases h12 : 12 < kd
            · have h12i : (12 : Int) < (kd : Int) := by omega
              rw [decide_eq_true h8, decide_eq_true h12] at her
              simp at her
              subst her
              go_wp2_with (go_at_call 13; refine (works_any _).mono ?_; rintro e w' ⟨rfl, hb⟩)
              go_ret
              exact ⟨rfl, HB8.out.trans (hb.mono HB8.out.size)⟩
            · have h12i : decide ((12 : Int) < (kd : Int)) = false := by simp; omega
              rw [decide_eq_true h8, decide_eq_false h12] at her
              simp at her
              subst her
              go_wp2_with (go_at_call 13; refine (works_any _).mono ?_; rintro e w' ⟨rfl, hb⟩)
              go_ret
              exact ⟨rfl, HB8.out.trans (hb.mono HB8.out.size)⟩
          · have h8d : decide (fl < 8) = false := decide_eq_false h8
            rw [h8d] at her
            simp at her
            subst her
            clear h8
            go_wp2_with (go_at_call 13; refine (works_any _).mono ?_; rintro e w' ⟨rfl, hb⟩)
            go_ret
            exact ⟨rfl, HB8.out.trans (hb.mono HB8.out.size)⟩

end Go.Proofs.Ytlihcckgnnnekaa
