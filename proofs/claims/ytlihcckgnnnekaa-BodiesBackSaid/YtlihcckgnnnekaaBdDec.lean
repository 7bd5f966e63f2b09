/-
  Stage 9: what the Get functions read from the bytes that the Put functions make. Program apart, but for the contracts at the end.
-/
import Derived.Test.YtlihcckgnnnekaaBdOne
namespace Go.Proofs.Ytlihcckgnnnekaa
open Go.RowKit
set_option linter.unusedVariables false

theorem bits_of (u f l : Bool) : bitB (dflags u f l) 4 = u ∧ bitB (dflags u f l) 2 = f ∧ bitB (dflags u f l) 1 = l := by
  cases u <;> cases f <;> cases l <;> exact ⟨rfl, rfl, rfl⟩
-- data
theorem dataB_nums {x0 x1 x2 : Int} (bs : List Int) (h00 : 0 ≤ x0) (h01 : x0 < 4294967296) (h10 : 0 ≤ x1) (h11 : x1 < 65536) (h20 : 0 ≤ x2) (h21 : x2 < 65536) :
    natAt (dataB x0 x1 x2 bs) 0 4 = x0 ∧ natAt (dataB x0 x1 x2 bs) 4 2 = x1 ∧ natAt (dataB x0 x1 x2 bs) 6 2 = x2 ∧ (dataB x0 x1 x2 bs).drop 12 = bs := by
  refine ⟨?_, ?_, ?_, ?_⟩
  · exact natAt_at (a := []) (b := enc x1 2 ++ enc x2 2 ++ enc 0 4 ++ bs) (m := 4294967296) h00 (by decide) h01 (by simp [dataB, List.append_assoc]) rfl
  · exact natAt_at (a := enc x0 4) (b := enc x2 2 ++ enc 0 4 ++ bs) (m := 65536) h10 (by decide) h11 (by simp [dataB, List.append_assoc]) (by simp)
  · exact natAt_at (a := enc x0 4 ++ enc x1 2) (b := enc 0 4 ++ bs) (m := 65536) h20 (by decide) h21 (by simp [dataB, List.append_assoc]) (by simp)
  · unfold dataB; exact List.drop_left' (by simp)
theorem okData_put {x0 x1 x2 : Int} (u f l : Bool) (bs : List Int) (h00 : 0 ≤ x0) (h01 : x0 < 4294967296) (h10 : 0 ≤ x1) (h11 : x1 < 65536) (h20 : 0 ≤ x2) (h21 : x2 < 65536) :
    okData 0 (dflags u f l) (dataB x0 x1 x2 bs) = decide (0 < bs.length) := by
  obtain ⟨e0, e1, e2, e3⟩ := dataB_nums bs h00 h01 h10 h11 h20 h21
  obtain ⟨b0, b1, b2⟩ := bits_of u f l
  unfold okData
  rw [e0, e1, e2, e3, b0, b1, b2, eqC_refl, Bool.and_true]
  congr 1
  simp only [dataB_len, eq_iff_iff]
  omega
-- init
theorem initH_nums {x0 x1 x2 x3 x4 : Int} (b : List Int) (h00 : 0 ≤ x0) (h01 : x0 < 4294967296) (h10 : 0 ≤ x1) (h11 : x1 < 4294967296) (h20 : 0 ≤ x2) (h21 : x2 < 65536) (h30 : 0 ≤ x3) (h31 : x3 < 65536) (h40 : 0 ≤ x4) (h41 : x4 < 4294967296) {c : List Int} (e : c = initH x0 x1 x2 x3 x4 ++ b) :
    natAt c 0 4 = x0 ∧ natAt c 4 4 = x1 ∧ natAt c 8 2 = x2 ∧ natAt c 10 2 = x3 ∧ natAt c 12 4 = x4 := by
  subst e
  refine ⟨?_, ?_, ?_, ?_, ?_⟩
  · exact natAt_at (a := []) (b := enc x1 4 ++ enc x2 2 ++ enc x3 2 ++ enc x4 4 ++ b) (m := 4294967296) h00 (by decide) h01 (by simp [initH, List.append_assoc]) rfl
  · exact natAt_at (a := enc x0 4) (b := enc x2 2 ++ enc x3 2 ++ enc x4 4 ++ b) (m := 4294967296) h10 (by decide) h11 (by simp [initH, List.append_assoc]) (by simp)
  · exact natAt_at (a := enc x0 4 ++ enc x1 4) (b := enc x3 2 ++ enc x4 4 ++ b) (m := 65536) h20 (by decide) h21 (by simp [initH, List.append_assoc]) (by simp)
  · exact natAt_at (a := enc x0 4 ++ enc x1 4 ++ enc x2 2) (b := enc x4 4 ++ b) (m := 65536) h30 (by decide) h31 (by simp [initH, List.append_assoc]) (by simp)
  · exact natAt_at (a := enc x0 4 ++ enc x1 4 ++ enc x2 2 ++ enc x3 2) (b := b) (m := 4294967296) h40 (by decide) h41 (by simp [initH, List.append_assoc]) (by simp)
theorem initA_eq (x0 x1 x2 x3 x4 : Int) (ck : List Int) : ∃ pad, initA x0 x1 x2 x3 x4 ck = initH x0 x1 x2 x3 x4 ++ (enc 7 2 ++ (enc (4 + (ck.length : Int)) 2 ++ (ck ++ pad))) := by
  unfold initA pad4
  exact ⟨_, by simp only [List.append_assoc]; rfl⟩
theorem initA_ck {x0 x1 x2 x3 x4 : Int} (ck : List Int) (hl : ck.length ≤ 60000) : natAt (initA x0 x1 x2 x3 x4 ck) 18 2 = 4 + (ck.length : Int) ∧ ckOf (initA x0 x1 x2 x3 x4 ck) (4 + (ck.length : Int)) = ck := by
  obtain ⟨pad, e⟩ := initA_eq x0 x1 x2 x3 x4 ck
  rw [e]
  constructor
  · exact natAt_at (a := initH x0 x1 x2 x3 x4 ++ enc 7 2) (b := ck ++ pad) (m := 65536) (by omega) (by decide) (by omega) (by simp only [List.append_assoc]) (by simp [initH_len])
  · unfold ckOf
    rw [if_pos ⟨by omega, by simp [initH_len]; omega⟩, show (4 + (ck.length : Int) - 4).toNat = ck.length by omega, show initH x0 x1 x2 x3 x4 ++ (enc 7 2 ++ (enc (4 + (ck.length : Int)) 2 ++ (ck ++ pad))) = (initH x0 x1 x2 x3 x4 ++ (enc 7 2 ++ enc (4 + (ck.length : Int)) 2)) ++ (ck ++ pad) by simp only [List.append_assoc],
      List.drop_left' (by simp [initH_len]), List.take_left' rfl]
/-- What is read from a beginning's body. -/
theorem initB_nums (k : Int) {x0 x1 x2 x3 x4 : Int} (ck : List Int) (hl : ck.length ≤ 60000) (h00 : 0 ≤ x0) (h01 : x0 < 4294967296) (h10 : 0 ≤ x1) (h11 : x1 < 4294967296) (h20 : 0 ≤ x2) (h21 : x2 < 65536) (h30 : 0 ≤ x3) (h31 : x3 < 65536) (h40 : 0 ≤ x4) (h41 : x4 < 4294967296) :
    natAt (initB k x0 x1 x2 x3 x4 ck) 0 4 = x0 ∧ natAt (initB k x0 x1 x2 x3 x4 ck) 4 4 = x1 ∧ natAt (initB k x0 x1 x2 x3 x4 ck) 8 2 = x2 ∧ natAt (initB k x0 x1 x2 x3 x4 ck) 10 2 = x3 ∧ natAt (initB k x0 x1 x2 x3 x4 ck) 12 4 = x4 ∧ ckK k (initB k x0 x1 x2 x3 x4 ck) = if k = 2 then ck else [] := by
  unfold initB ckK
  by_cases hk : k = 2
  · simp only [if_pos hk]
    obtain ⟨pad, e⟩ := initA_eq x0 x1 x2 x3 x4 ck
    obtain ⟨a1, a2⟩ := initA_ck (x0 := x0) (x1 := x1) (x2 := x2) (x3 := x3) (x4 := x4) ck hl
    obtain ⟨e0, e1, e2, e3, e4⟩ := initH_nums _ h00 h01 h10 h11 h20 h21 h30 h31 h40 h41 e
    exact ⟨e0, e1, e2, e3, e4, by rw [a1, a2]⟩
  · simp only [if_neg hk]
    obtain ⟨e0, e1, e2, e3, e4⟩ := initH_nums [] h00 h01 h10 h11 h20 h21 h30 h31 h40 h41 (List.append_nil _).symm
    exact ⟨e0, e1, e2, e3, e4, trivial⟩
theorem okInit_put (k : Int) {x0 x1 x2 x3 x4 : Int} (ck : List Int) (hl : ck.length ≤ 60000) (h00 : 0 ≤ x0) (h01 : x0 < 4294967296) (h10 : 0 ≤ x1) (h11 : x1 < 4294967296) (h20 : 0 ≤ x2) (h21 : x2 < 65536) (h30 : 0 ≤ x3) (h31 : x3 < 65536) (h40 : 0 ≤ x4) (h41 : x4 < 4294967296) :
    okInit k 0 (initB k x0 x1 x2 x3 x4 ck) = initOk k x0 x2 x3 (if k = 2 then ck else []).length := by
  obtain ⟨e0, e1, e2, e3, e4, e5⟩ := initB_nums k ck hl h00 h01 h10 h11 h20 h21 h30 h31 h40 h41
  unfold okInit initBk
  rw [e5, e0, e1, e2, e3, e4]
  have e : initB k x0 x1 x2 x3 x4 (if k = 2 then ck else []) = initB k x0 x1 x2 x3 x4 ck := by
    unfold initB
    split <;> rfl
  rw [e, eqC_refl, Bool.and_true]
-- pairs, numbers
theorem pairsB_app (ps qs : List (Int × Int)) : pairsB (ps ++ qs) = pairsB ps ++ pairsB qs := by simp [pairsB]
theorem encs_app (xs ys : List Int) (n : Nat) : encs (xs ++ ys) n = encs xs n ++ encs ys n := by simp [encs]
theorem split_at {α : Type} {xs : List α} {i : Nat} {x : α} (h : xs[i]? = some x) : xs = xs.take i ++ ([x] ++ xs.drop (i + 1)) := by
  have hi := (List.getElem?_eq_some_iff.1 h).1
  have e := (List.getElem?_eq_some_iff.1 h).2
  conv => lhs; rw [← List.take_append_drop i xs, List.drop_eq_getElem_cons hi, e]
  rfl
theorem pairsAt_put {ps : List (Int × Int)} (h : ∀ p ∈ ps, InP p) {a b c : List Int} (e : c = a ++ pairsB ps ++ b) {s : Nat} (hs : s = a.length) : pairsAt c s ps.length = ps := by
  subst hs
  refine List.ext_getElem (pairsAt_len _ _ _) fun i h1 h2 => ?_
  have hp : ps[i]? = some ps[i] := by simp [h2]
  generalize ps[i] = p at hp
  obtain ⟨q0, q1, q2, q3⟩ := h p (List.mem_of_getElem? hp)
  have e2 : c = a ++ pairsB (ps.take i) ++ enc p.1 2 ++ (enc p.2 2 ++ pairsB (ps.drop (i + 1)) ++ b) := by
    rw [e]
    conv => lhs; rw [split_at hp, pairsB_app, pairsB_app]
    simp [pairsB, List.append_assoc]
  have hl : (pairsB (ps.take i)).length = 4 * i := by rw [pairsB_len, List.length_take, Nat.min_eq_left (by omega)]
  have n1 : natAt c (a.length + 4 * i) 2 = p.1 := natAt_at (m := 65536) q0 (by decide) q1 e2 (by rw [List.length_append, hl])
  have n2 : natAt c (a.length + 4 * i + 2) 2 = p.2 := natAt_at (a := a ++ pairsB (ps.take i) ++ enc p.1 2) (b := pairsB (ps.drop (i + 1)) ++ b) (m := 65536) q2 (by decide) q3 (by rw [e2]; simp only [List.append_assoc]) (by simp [hl]; omega)
  simp [pairsAt, n1, n2]
theorem numsAt_put {xs : List Int} (h : ∀ x ∈ xs, 0 ≤ x ∧ x < 4294967296) {a b c : List Int} (e : c = a ++ encs xs 4 ++ b) {s : Nat} (hs : s = a.length) : numsAt c s xs.length = xs := by
  subst hs
  refine List.ext_getElem (numsAt_len _ _ _) fun i h1 h2 => ?_
  have hp : xs[i]? = some xs[i] := by simp [h2]
  generalize xs[i] = p at hp
  obtain ⟨q0, q1⟩ := h p (List.mem_of_getElem? hp)
  have e2 : c = a ++ encs (xs.take i) 4 ++ enc p 4 ++ (encs (xs.drop (i + 1)) 4 ++ b) := by
    rw [e]
    conv => lhs; rw [split_at hp, encs_app, encs_app, encs_one]
    simp only [List.append_assoc]
  have hl : (encs (xs.take i) 4).length = 4 * i := by rw [encs_len, List.length_take, Nat.min_eq_left (by omega)]
  have n1 : natAt c (a.length + 4 * i) 4 = p := natAt_at (m := 4294967296) q0 (by decide) q1 e2 (by rw [List.length_append, hl])
  simp [numsAt, n1]
-- an acknowledgement
theorem sackB_nums {x0 x1 : Int} {gs : List (Int × Int)} {ds : List Int} (h00 : 0 ≤ x0) (h01 : x0 < 4294967296) (h10 : 0 ≤ x1) (h11 : x1 < 4294967296) (hg : ∀ p ∈ gs, InP p) (hd : ∀ x ∈ ds, 0 ≤ x ∧ x < 4294967296) (hgl : gs.length < 65536) (hdl : ds.length < 65536) :
    natAt (sackB x0 x1 gs ds) 0 4 = x0 ∧ natAt (sackB x0 x1 gs ds) 4 4 = x1 ∧ sackG (sackB x0 x1 gs ds) = gs ∧ sackD (sackB x0 x1 gs ds) = ds := by
  have e8 : natAt (sackB x0 x1 gs ds) 8 2 = (gs.length : Int) := natAt_at (a := enc x0 4 ++ enc x1 4) (b := enc (ds.length : Int) 2 ++ pairsB gs ++ encs ds 4) (m := 65536) (by omega) (by decide) (by omega) (by unfold sackB; simp only [List.append_assoc]) (by simp)
  have hE : sackE (sackB x0 x1 gs ds) = 12 + 4 * gs.length := by unfold sackE; rw [e8]; rfl
  have hl := sackB_len x0 x1 gs ds
  refine ⟨?_, ?_, ?_, ?_⟩
  · exact natAt_at (a := []) (b := enc x1 4 ++ enc (gs.length : Int) 2 ++ enc (ds.length : Int) 2 ++ pairsB gs ++ encs ds 4) (m := 4294967296) h00 (by decide) h01 (by simp [sackB, List.append_assoc]) rfl
  · exact natAt_at (a := enc x0 4) (b := enc (gs.length : Int) 2 ++ enc (ds.length : Int) 2 ++ pairsB gs ++ encs ds 4) (m := 4294967296) h10 (by decide) h11 (by simp [sackB, List.append_assoc]) (by simp)
  · unfold sackG
    rw [hE, hl, show (min (12 + 4 * gs.length) (12 + 4 * gs.length + 4 * ds.length) - 12 + 3) / 4 = gs.length by omega]
    exact pairsAt_put hg (a := enc x0 4 ++ enc x1 4 ++ enc (gs.length : Int) 2 ++ enc (ds.length : Int) 2) (b := encs ds 4) (by unfold sackB; simp only [List.append_assoc]) (by simp)
  · unfold sackD
    rw [hE, hl, show (12 + 4 * gs.length + 4 * ds.length - (12 + 4 * gs.length) + 3) / 4 = ds.length by omega]
    exact numsAt_put hd (a := enc x0 4 ++ enc x1 4 ++ enc (gs.length : Int) 2 ++ enc (ds.length : Int) 2 ++ pairsB gs) (b := []) (by unfold sackB; simp only [List.append_assoc, List.append_nil]) (by simp [pairsB_len]; omega)
theorem okSack_put {x0 x1 : Int} {gs : List (Int × Int)} {ds : List Int} (h00 : 0 ≤ x0) (h01 : x0 < 4294967296) (h10 : 0 ≤ x1) (h11 : x1 < 4294967296) (hg : ∀ p ∈ gs, InP p) (hd : ∀ x ∈ ds, 0 ≤ x ∧ x < 4294967296) (hgl : gs.length < 65536) (hdl : ds.length < 65536) :
    okSack 3 0 (sackB x0 x1 gs ds) = apartF 0 gs := by
  obtain ⟨e0, e1, e2, e3⟩ := sackB_nums h00 h01 h10 h11 hg hd hgl hdl
  unfold okSack
  rw [e0, e1, e2, e3, eqC_refl, Bool.and_true]
-- what will not come
theorem fwdB_nums {x0 : Int} {fs : List (Int × Int)} (h00 : 0 ≤ x0) (h01 : x0 < 4294967296) (hf : ∀ p ∈ fs, InP p) :
    natAt (fwdB x0 fs) 0 4 = x0 ∧ pairsAt (fwdB x0 fs) 4 (((fwdB x0 fs).length - 4 + 3) / 4) = fs := by
  refine ⟨natAt_at (a := []) (b := pairsB fs) (m := 4294967296) h00 (by decide) h01 (by simp [fwdB]) rfl, ?_⟩
  rw [fwdB_len, show (4 + 4 * fs.length - 4 + 3) / 4 = fs.length by omega]
  exact pairsAt_put hf (a := enc x0 4) (b := []) (by simp [fwdB]) (by simp)
theorem okFwd_put {x0 : Int} {fs : List (Int × Int)} (h00 : 0 ≤ x0) (h01 : x0 < 4294967296) (hf : ∀ p ∈ fs, InP p) : okFwd 192 0 (fwdB x0 fs) = true := by
  obtain ⟨e0, e1⟩ := fwdB_nums h00 h01 hf
  unfold okFwd
  rw [e0, e1]
  exact eqC_mk ⟨rfl, rfl, rfl⟩
-- time, number
theorem timeB_val {x : Int} (h0 : -9223372036854775808 ≤ x) (h1 : x < 9223372036854775808) : timeV (timeB x) = x := by
  have e : natAt (timeB x) 4 8 = x % 18446744073709551616 := by
    have hx := Int.emod_nonneg x (show (18446744073709551616 : Int) ≠ 0 by decide)
    have hy := Int.emod_lt_of_pos x (show (0 : Int) < 18446744073709551616 by decide)
    exact natAt_at (a := enc 1 2 ++ enc 12 2) (b := []) (m := 18446744073709551616) hx (by decide) hy (by unfold timeB; rw [enc_mod (by decide), List.append_nil]) (by simp)
  unfold timeV
  rw [e]
  show wrap64 _ = _
  unfold wrap64
  omega
theorem okTime_put {k x : Int} (hk : k = 4 ∨ k = 5) (h0 : -9223372036854775808 ≤ x) (h1 : x < 9223372036854775808) : okTime k 0 (timeB x) = true := by
  unfold okTime
  rw [timeB_val h0 h1, eqC_refl, Bool.and_true]
  rcases hk with rfl | rfl <;> rfl
theorem cumB_val {x : Int} (h0 : 0 ≤ x) (h1 : x < 4294967296) : natAt (enc x 4) 0 4 = x := natAt_at (a := []) (b := []) (m := 4294967296) h0 (by decide) h1 (by simp) rfl
theorem okCum_put {x : Int} (h0 : 0 ≤ x) (h1 : x < 4294967296) : okCum 7 0 (enc x 4) = true := by
  unfold okCum
  rw [cumB_val h0 h1]
  exact eqC_mk ⟨rfl, rfl, rfl⟩
-- got as it was put
theorem backData (d0 d1 d2 : Int) (d3 d4 d5 : Bool) (a : Option Addr) (L c : Nat) (dz : List Int) (w : World) (hr : Reads w a L (dataB d0 d1 d2 dz)) (hc : L ≤ c) (hz : Byt dz) (hn : dz.length ≤ 8192) (h00 : 0 ≤ d0) (h01 : d0 < 4294967296) (h10 : 0 ≤ d1) (h11 : d1 < 65536) (h20 : 0 ≤ d2) (h21 : d2 < 65536) :
    Calls Try.prog 16 #[.agg #[.int .u8 0, .int .u8 (dflags d3 d4 d5), .slice a L c]] w fun e w' =>
      ∃ g0 g1 g2 g3 g4 g5 a1 gl c1 er, e = .returned (.tuple #[.agg #[.int .u32 g0, .int .u16 g1, .int .u16 g2, .bool g3, .bool g4, .bool g5, .slice a1 gl c1], .int .i64 er]) ∧ Below w.heap.size w w' ∧
        (0 < dz.length → (g0 = d0 ∧ g1 = d1 ∧ g2 = d2 ∧ g3 = d3 ∧ g4 = d4 ∧ g5 = d5) ∧ gl = dz.length ∧ er = 0 ∧ Reads w' a1 dz.length dz) ∧ (dz.length = 0 → er = 7) := by
  have hL : (dataB d0 d1 d2 dz).length = L := hr.1
  have hl := dataB_len d0 d1 d2 dz
  obtain ⟨e0, e1, e2, e3⟩ := dataB_nums dz h00 h01 h10 h11 h20 h21
  obtain ⟨b0, b1, b2⟩ := bits_of d3 d4 d5
  refine (pgetData 0 (dflags d3 d4 d5) a L c _ w hr (dataB_byt _ _ _ hz) hc (by omega)).mono ?_
  rintro e w' ⟨a1, c1, h1, h2, h3⟩
  rw [okData_put d3 d4 d5 dz h00 h01 h10 h11 h20 h21] at h1
  rw [e3, hl, Nat.add_sub_cancel_left] at h3
  unfold dataV at h1
  rw [e0, e1, e2, b0, b1, b2, hl, Nat.add_sub_cancel_left] at h1
  rcases h1 with ⟨hb, rfl⟩ | ⟨hb, rfl⟩
  · have hp : 0 < dz.length := of_decide_eq_true hb
    exact ⟨_, _, _, _, _, _, _, _, _, _, rfl, h2, fun _ => ⟨⟨rfl, rfl, rfl, rfl, rfl, rfl⟩, rfl, rfl, h3.reads⟩, fun h => by omega⟩
  · have hp : ¬ 0 < dz.length := of_decide_eq_false hb
    exact ⟨_, _, _, _, _, _, _, _, _, _, rfl, h2, fun h => (by omega), fun _ => rfl⟩
theorem backInit (k i0 i1 i2 i3 i4 : Int) (a : Option Addr) (L c : Nat) (iz : List Int) (w : World) (hr : Reads w a L (initB k i0 i1 i2 i3 i4 iz)) (hc : L ≤ c) (hz : Byt iz) (hn : iz.length ≤ 8192) (hk : k = 2 ∨ iz = []) (h00 : 0 ≤ i0) (h01 : i0 < 4294967296) (h10 : 0 ≤ i1) (h11 : i1 < 4294967296) (h20 : 0 ≤ i2) (h21 : i2 < 65536) (h30 : 0 ≤ i3) (h31 : i3 < 65536) (h40 : 0 ≤ i4) (h41 : i4 < 4294967296) :
    Calls Try.prog 24 #[.agg #[.int .u8 k, .int .u8 0, .slice a L c]] w fun e w' =>
      ∃ g0 g1 g2 g3 g4 a1 gl c1 er, e = .returned (.tuple #[.agg #[.int .u32 g0, .int .u32 g1, .int .u16 g2, .int .u16 g3, .int .u32 g4, .slice a1 gl c1], .int .i64 er]) ∧ Below w.heap.size w w' ∧
        (initOk k i0 i2 i3 iz.length = true → (g0 = i0 ∧ g1 = i1 ∧ g2 = i2 ∧ g3 = i3 ∧ g4 = i4) ∧ gl = iz.length ∧ er = 0 ∧ Reads w' a1 iz.length iz) ∧ (initOk k i0 i2 i3 iz.length = false → er = 7) := by
  have hL : (initB k i0 i1 i2 i3 i4 iz).length = L := hr.1
  have hl := initB_len k i0 i1 i2 i3 i4 iz
  obtain ⟨e0, e1, e2, e3, e4, e5⟩ := initB_nums k iz (by omega) h00 h01 h10 h11 h20 h21 h30 h31 h40 h41
  have hck : (if k = 2 then iz else []) = iz := by
    rcases hk with h | h
    · rw [if_pos h]
    · rw [h]; split <;> rfl
  rw [hck] at e5
  refine (pgetInit k 0 a L c _ w hr (initB_byt _ _ _ _ _ _ hz) hc (by omega)).mono ?_
  rintro e w' ⟨a1, c1, h1, h2, h3⟩
  rw [okInit_put k iz (by omega) h00 h01 h10 h11 h20 h21 h30 h31 h40 h41, hck] at h1
  rw [e5] at h1 h3
  unfold initV at h1
  rw [e0, e1, e2, e3, e4] at h1
  rcases h1 with ⟨hb, rfl⟩ | ⟨hb, rfl⟩
  · exact ⟨_, _, _, _, _, _, _, _, _, rfl, h2, fun _ => ⟨⟨rfl, rfl, rfl, rfl, rfl⟩, rfl, rfl, h3.reads⟩, fun h => by rw [hb] at h; cases h⟩
  · exact ⟨_, _, _, _, _, _, _, _, _, rfl, h2, fun h => (by rw [hb] at h; cases h), fun _ => rfl⟩
theorem nums_in {w : World} {a : Option Addr} {n : Nat} {ds : List Int} (h : Nums .u32 w a n ds) : ∀ x ∈ ds, 0 ≤ x ∧ x < 4294967296 := fun x hx => by have := wf_u32_in (h.2.2.1 x hx); omega
theorem backSack (s0 s1 : Int) (a : Option Addr) (L c : Nat) (gs : List (Int × Int)) (ds : List Int) (w : World) (hr : Reads w a L (sackB s0 s1 gs ds)) (hc : L ≤ c) (hg : ∀ p ∈ gs, InP p) (hd : ∀ x ∈ ds, 0 ≤ x ∧ x < 4294967296) (hgn : gs.length ≤ 2048) (hdn : ds.length ≤ 2048) (h00 : 0 ≤ s0) (h01 : s0 < 4294967296) (h10 : 0 ≤ s1) (h11 : s1 < 4294967296) :
    Calls Try.prog 30 #[.agg #[.int .u8 3, .int .u8 0, .slice a L c]] w fun e w' =>
      ∃ g0 g1 a1 m1 c1 a2 m2 c2 er, e = .returned (.tuple #[.agg #[.int .u32 g0, .int .u32 g1, .slice a1 m1 c1, .slice a2 m2 c2], .int .i64 er]) ∧ Below w.heap.size w w' ∧
        (apartF 0 gs = true → (g0 = s0 ∧ g1 = s1) ∧ m1 = gs.length ∧ m2 = ds.length ∧ er = 0 ∧ Prs w' a1 gs.length gs ∧ Nums .u32 w' a2 ds.length ds) ∧ (apartF 0 gs = false → er = 7) := by
  have hL : (sackB s0 s1 gs ds).length = L := hr.1
  have hl := sackB_len s0 s1 gs ds
  obtain ⟨e0, e1, e2, e3⟩ := sackB_nums h00 h01 h10 h11 hg hd (by omega) (by omega)
  refine (pgetSack 3 0 a L c _ w hr (sackB_byt _ _ _ _) hc (by omega)).mono ?_
  rintro e w' ⟨a1, c1, a2, c2, h1, h2, h3, h4⟩
  rw [okSack_put h00 h01 h10 h11 hg hd (by omega) (by omega), e0, e1, e2, e3] at h1
  rw [e2] at h3
  rw [e3] at h4
  rcases h1 with ⟨hb, rfl⟩ | ⟨hb, rfl⟩
  · exact ⟨_, _, _, _, _, _, _, _, _, rfl, h2, fun _ => ⟨⟨rfl, rfl⟩, rfl, rfl, rfl, h3, h4⟩, fun h => by rw [hb] at h; cases h⟩
  · exact ⟨_, _, _, _, _, _, _, _, _, rfl, h2, fun h => (by rw [hb] at h; cases h), fun _ => rfl⟩
theorem backForward (f0 : Int) (a : Option Addr) (L c : Nat) (fs : List (Int × Int)) (w : World) (hr : Reads w a L (fwdB f0 fs)) (hc : L ≤ c) (hf : ∀ p ∈ fs, InP p) (hn : fs.length ≤ 2048) (h00 : 0 ≤ f0) (h01 : f0 < 4294967296) :
    Calls Try.prog 35 #[.agg #[.int .u8 192, .int .u8 0, .slice a L c]] w fun e w' =>
      ∃ a1 c1, e = .returned (.tuple #[.agg #[.int .u32 f0, .slice a1 fs.length c1], .int .i64 0]) ∧ Below w.heap.size w w' ∧ Prs w' a1 fs.length fs := by
  have hL : (fwdB f0 fs).length = L := hr.1
  have hl := fwdB_len f0 fs
  obtain ⟨e0, e1⟩ := fwdB_nums h00 h01 hf
  refine (pgetForward 192 0 a L c _ w hr (fwdB_byt _ _) hc (by omega)).mono ?_
  rintro e w' ⟨a1, c1, h1, h2, h3⟩
  rw [okFwd_put h00 h01 hf, e0, e1] at h1
  rw [e1] at h3
  rcases h1 with ⟨_, h1⟩ | ⟨hb, _⟩
  · exact ⟨a1, c1, h1, h2, h3⟩
  · cases hb
theorem backTime (k x : Int) (hk : k = 4 ∨ k = 5) (h0 : -9223372036854775808 ≤ x) (h1 : x < 9223372036854775808) (a : Option Addr) (L c : Nat) (w : World) (hr : Reads w a L (timeB x)) (hc : L ≤ c) :
    Calls Try.prog 39 #[.agg #[.int .u8 k, .int .u8 0, .slice a L c]] w fun e w' => e = .returned (.tuple #[.int .i64 x, .int .i64 0]) ∧ Below w.heap.size w w' := by
  have hL : (timeB x).length = L := hr.1
  have hl : (timeB x).length = 12 := by simp [timeB]
  refine (pgetTime k 0 a L c _ w hr (((enc_byt _ _).append (enc_byt _ _)).append (enc_byt _ _)) hc (by omega)).mono ?_
  rintro e w' ⟨h2, h3⟩
  rw [okTime_put hk h0 h1, timeB_val h0 h1] at h2
  rcases h2 with ⟨_, h2⟩ | ⟨hb, _⟩
  · exact ⟨h2, h3⟩
  · cases hb
theorem backCum (x : Int) (h0 : 0 ≤ x) (h1 : x < 4294967296) (a : Option Addr) (L c : Nat) (w : World) (hr : Reads w a L (enc x 4)) (hc : L ≤ c) :
    Calls Try.prog 41 #[.agg #[.int .u8 7, .int .u8 0, .slice a L c]] w fun e w' => e = .returned (.tuple #[.int .u32 x, .int .i64 0]) ∧ Below w.heap.size w w' := by
  have hL : (enc x 4).length = L := hr.1
  have hl : (enc x 4).length = 4 := by simp
  refine (pgetCum 7 0 a L c _ w hr (enc_byt _ _) hc (by omega)).mono ?_
  rintro e w' ⟨h2, h3⟩
  rw [okCum_put h0 h1, cumB_val h0 h1] at h2
  rcases h2 with ⟨_, h2⟩ | ⟨hb, _⟩
  · exact ⟨h2, h3⟩
  · cases hb
-- are the gaps apart, as the law reckons it
def apStep (gs : List (Int × Int)) (k : Nat) : Bool := match gs[k]? with
  | none => true
  | some p => decide (p.1 ≤ p.2) && decide (2 ≤ p.1) && (decide (k = 0) || decide (((gs[k - 1]?).getD (0, 0)).2 + 1 < p.1))
/-- The first k gaps: each from 2 on, not backwards, apart from the one ahead. -/
def apK (gs : List (Int × Int)) : Nat → Bool
  | 0 => true
  | k + 1 => apK gs k && apStep gs k
theorem apK_succ (gs : List (Int × Int)) (k : Nat) : apK gs (k + 1) = (apK gs k && apStep gs k) := rfl
/-- The end of the gap ahead. -/
def lastK (gs : List (Int × Int)) (k : Nat) : Int := if k = 0 then 0 else ((gs[k - 1]?).getD (0, 0)).2
theorem apK_drop {gs : List (Int × Int)} (hin : ∀ p ∈ gs, InP p) : ∀ (j k : Nat), k + j = gs.length → (apK gs k && apartF (lastK gs k) (gs.drop k)) = apK gs gs.length := by
  intro j
  induction j with
  | zero =>
    intro k hk
    obtain rfl : k = gs.length := by omega
    rw [List.drop_length]
    simp [apartF]
  | succ j ih =>
    intro k hk
    have hlt : k < gs.length := by omega
    have hp : gs[k]? = some gs[k] := by simp [hlt]
    generalize gs[k] = p at hp
    rw [← ih (k + 1) (by omega), apartF_step hp, apK_succ, Bool.and_assoc]
    have hl : lastK gs (k + 1) = p.2 := by unfold lastK; rw [if_neg (by omega), Nat.add_sub_cancel, hp]; rfl
    rw [hl]
    have hs : apStep gs k = (!decide (p.1 < lastK gs k + 2) && !decide (p.2 < p.1)) := by
      unfold apStep lastK
      rw [hp]
      simp only
      by_cases h0 : k = 0
      · rw [if_pos h0, Bool.eq_iff_iff]
        simp [h0]
        omega
      · rw [if_neg h0]
        obtain ⟨q, hq⟩ : ∃ q, gs[k - 1]? = some q := ⟨gs[k - 1]'(by omega), by simp [show k - 1 < gs.length by omega]⟩
        have hi := hin q (List.mem_of_getElem? hq)
        unfold InP at hi
        rw [hq, Bool.eq_iff_iff]
        simp [h0]
        omega
    rw [hs, Bool.and_assoc]
theorem apK_all {gs : List (Int × Int)} (hin : ∀ p ∈ gs, InP p) : apK gs gs.length = apartF 0 gs := by
  have h := apK_drop hin gs.length 0 (by omega)
  rw [← h]
  simp [apK, lastK]
end Go.Proofs.Ytlihcckgnnnekaa
