/-
  The reference of layer 6: Sum.
-/
import Derived.Test.YtcmaclaiholpfaaDoorShaConst
import Derived.Test.YtcmaclaiholpfaaDoorShaWords
import Derived.Test.YtcmaclaiholpfaaDoorShaWhole
import Derived.Test.YtcmaclaiholpfaaDoorMgA
import Derived.Test.YtcmaclaiholpfaaDoorArr
import Derived.Deep.Cut
import Derived.Deep.MidRow
namespace Go.Proofs.YtcmaclaiholpfaaDoor
open Go.RowKit
set_option linter.unusedVariables false

theorem Blk32.belowAt {w w' : World} {g : Nat} {ws : List Nat} (h : Blk32 w g ws) {B : Nat} (hb : Below B w w') (hg : g < B) : Blk32 w' g ws := (hb.block g hg).trans h

/-- Eight words. -/
def Eight (v : List Nat) : Prop := ∃ a b c d e f g h : Nat, v = [a, b, c, d, e, f, g, h] ∧ a < 4294967296 ∧ b < 4294967296 ∧ c < 4294967296 ∧ d < 4294967296 ∧ e < 4294967296 ∧ f < 4294967296 ∧ g < 4294967296 ∧ h < 4294967296
theorem eight_H0 : Eight H0s := ⟨_, _, _, _, _, _, _, _, rfl, by omega, by omega, by omega, by omega, by omega, by omega, by omega, by omega⟩
theorem eight_step {k w : Nat} {v : List Nat} (h : Eight v) : Eight (stepL k w v) := by
  obtain ⟨a, b, c, d, e, f, g, hh, rfl, ha, hb, hc, hd, he, hf, hg, _⟩ := h
  exact ⟨_, _, _, _, _, _, _, _, rfl, Nat.mod_lt _ (by omega), ha, hb, hc, Nat.mod_lt _ (by omega), he, hf, hg⟩
theorem eight_rounds {ws v : List Nat} (h : Eight v) : ∀ t, Eight (rounds ws v t)
  | 0 => h
  | t + 1 => eight_step (eight_rounds h t)
theorem eight_add {v u : List Nat} (h : Eight v) (h2 : Eight u) : Eight (addL v u) := by
  obtain ⟨a, b, c, d, e, f, g, hh, rfl, _⟩ := h
  obtain ⟨a', b', c', d', e', f', g', hh', rfl, _⟩ := h2
  exact ⟨_, _, _, _, _, _, _, _, rfl, Nat.mod_lt _ (by omega), Nat.mod_lt _ (by omega), Nat.mod_lt _ (by omega), Nat.mod_lt _ (by omega), Nat.mod_lt _ (by omega), Nat.mod_lt _ (by omega), Nat.mod_lt _ (by omega), Nat.mod_lt _ (by omega)⟩
theorem eight_absorb {h : List Nat} (hh : Eight h) (zs : List Int) : ∀ n, Eight (absorb h zs n)
  | 0 => hh
  | n + 1 => eight_add (eight_absorb hh zs n) (eight_rounds (eight_absorb hh zs n) 64)
theorem Eight.len {v : List Nat} (h : Eight v) : v.length = 8 := by obtain ⟨a, b, c, d, e, f, g, hh, rfl, _⟩ := h; rfl
theorem Eight.at {v : List Nat} (h : Eight v) {i : Nat} (hi : i < 8) : ∃ x, x < 4294967296 ∧ v[i]? = some x := by
  obtain ⟨a, b, c, d, e, f, g, hh, rfl, ha, hb, hc, hd, he, hf, hg, hhh⟩ := h
  rcases i with _ | _ | _ | _ | _ | _ | _ | _ | i
  all_goals first | exact ⟨_, by assumption, rfl⟩ | omega

/-- What a round of the great loop leans on. -/
structure Base (w : World) (a' : Option Addr) (c' : Nat) (P : List Int) (hs : List Nat) (wr : World) : Prop where
  h : Blk32 wr (w.heap.size + 1) hs
  k : Blk32 wr (w.heap.size + 2) Ks
  p : Row8 (w.heap.size + 3) wr a' P.length c' P
  o : Arr wr w.heap.size 46 (List.replicate 32 (.int .u8 0))
  b : Below w.heap.size w wr
  sz : w.heap.size + 3 ≤ wr.heap.size

theorem Blk32.off {w : World} {g : Nat} {ws : List Nat} (h : Blk32 w g ws) {p : Addr} (u : Value) (hn : g ≠ p.block) : Blk32 (w.setCell p u) g ws := (Below.heap_setCell w p u g hn).trans h
theorem Row8.off {base : Nat} {w : World} {a : Option Addr} {n c : Nat} {zs : List Int} (h : Row8 base w a n c zs) {p : Addr} (u : Value) (hp : p.block < base) : Row8 base (w.setCell p u) a n c zs := by
  refine ⟨h.1, ?_⟩
  rcases h.2 with h2 | ⟨g, sp, hv, hbg, hg, r⟩
  · exact .inl h2
  · exact .inr ⟨g, sp, hv, hbg, (Below.heap_setCell w p u g (by omega)).trans hg, r⟩
section
variable {w wr wr' : World} {a' : Option Addr} {c' : Nat} {P : List Int} {hs : List Nat}
theorem Base.drew (h : Base w a' c' P hs wr) : Base w a' c' P hs wr.drew := ⟨h.h, h.k, h.p, h.o, h.b.drew, h.sz⟩
theorem Base.keep (h : Base w a' c' P hs wr) (hb : Below wr.heap.size wr wr') : Base w a' c' P hs wr' := by
  have := h.sz
  exact ⟨h.h.below hb, h.k.below hb, h.p.keep hb, h.o.below hb (by omega), h.b.trans (hb.mono (by omega)), by have := hb.size; omega⟩
theorem Base.keepAt (h : Base w a' c' P hs wr) {B : Nat} (hb : Below B wr wr') (hB : wr.heap.size ≤ B) : Base w a' c' P hs wr' := h.keep (hb.mono hB)
theorem Base.set (h : Base w a' c' P hs wr) (i x : Nat) : Base w a' c' P (hs.set i x) (wr.setCell ⟨w.heap.size + 1, i, none⟩ (.int .u32 (x : Int))) :=
  ⟨h.h.set i x, h.k.off _ (by simp), h.p.off _ (by simp), h.o.off _ (by simp), h.b.setCell (by simp) _, by have := h.sz; simpa [World.setCell] using this⟩
end
/-- Of the sums, the first k are laid. -/
def mix (hs vs : List Nat) (k : Nat) : List Nat := (addL hs vs).take k ++ hs.drop k
theorem mix_zero {hs vs : List Nat} (_h : Eight hs) : mix hs vs 0 = hs := by simp [mix]
theorem mix_all {hs vs : List Nat} (hh : Eight hs) (hv : Eight vs) : mix hs vs 8 = addL hs vs := by
  obtain ⟨a, b, c, d, e, f, g, h, rfl, _⟩ := hh
  obtain ⟨a', b', c', d', e', f', g', h', rfl, _⟩ := hv
  rfl
theorem mix_step {hs vs : List Nat} (hh : Eight hs) (hv : Eight vs) {k : Nat} (hk : k < 8) : ∃ x y, (mix hs vs k)[k]? = some x ∧ vs[k]? = some y ∧ (mix hs vs k).set k ((x + y) % 4294967296) = mix hs vs (k + 1) := by
  obtain ⟨a, b, c, d, e, f, g, h, rfl, _⟩ := hh
  obtain ⟨a', b', c', d', e', f', g', h', rfl, _⟩ := hv
  rcases k with _ | _ | _ | _ | _ | _ | _ | _ | k
  all_goals first | exact ⟨_, _, rfl, rfl, rfl⟩ | omega

/-- The digest as it is laid: the first k bytes. -/
def outs (hs : List Nat) (k : Nat) : List Value := ((digest hs).take k).map (Value.int .u8) ++ List.replicate (32 - k) (Value.int .u8 0)

theorem digest_len (hs : List Nat) : (digest hs).length = 32 := by simp [digest]
theorem digest_at {hs : List Nat} {k x : Nat} (hx : hs[k / 4]? = some x) (hk : k < 32) : (digest hs)[k]? = some ((x / 2 ^ (24 - 8 * (k % 4)) % 256 : Nat) : Int) := by
  unfold digest
  rw [List.getElem?_map, List.getElem?_range hk, Option.map_some, hx, Option.getD_some]
set_option maxRecDepth 10000 in
theorem outs_zero (hs : List Nat) : outs hs 0 = List.replicate 32 (Value.int .u8 0) := by simp [outs]
theorem outs_all (hs : List Nat) : outs hs 32 = (digest hs).map (Value.int .u8) := by simp [outs, List.take_of_length_le (Nat.le_of_eq (digest_len hs))]
theorem outs_left (hs : List Nat) {k : Nat} (hk : k < 32) : (((digest hs).take k).map (Value.int .u8)).length = k := by simp [digest_len]; omega
theorem outs_self (hs : List Nat) {k : Nat} (hk : k < 32) : (outs hs k)[k]? = some (.int .u8 0) := by
  unfold outs
  rw [List.getElem?_append_right (by rw [outs_left hs hk]; exact Nat.le_refl _), outs_left hs hk, Nat.sub_self, List.getElem?_replicate, if_pos (by omega)]
theorem outs_step (hs : List Nat) {k x : Nat} (hx : hs[k / 4]? = some x) (hk : k < 32) : (outs hs k).set k (.int .u8 ((x / 2 ^ (24 - 8 * (k % 4)) % 256 : Nat) : Int)) = outs hs (k + 1) := by
  unfold outs
  rw [List.set_append, if_neg (by rw [outs_left hs hk]; omega), outs_left hs hk, Nat.sub_self, show 32 - k = (32 - (k + 1)) + 1 by omega, List.replicate_succ, List.set_cons_zero, List.take_add_one, digest_at hx hk]
  simp
theorem cast_byte (x n : Nat) : ((x : Int) / 2 ^ n % 256) = ((x / 2 ^ n % 256 : Nat) : Int) := by
  have : ∀ M : Nat, ((x : Int) / 2 ^ n % (M : Int)) = ((x / 2 ^ n % M : Nat) : Int) := by intro M; push_cast; rfl
  exact this 256
theorem Row8.some_of {base : Nat} {w : World} {a : Option Addr} {n c : Nat} {zs : List Int} (h : Row8 base w a n c zs) (hn : 0 < n) : ∃ g, a = some ⟨g, 0, none⟩ ∧ base ≤ g ∧ n ≤ c ∧ g < w.heap.size := by
  rcases h.2 with ⟨_, h2, _⟩ | ⟨g, sp, hv, hb, hg, _, hc, _⟩
  · omega
  · cases hv
    have := h.1
    exact ⟨g, rfl, hb, by omega, hg.lt⟩
theorem Byt.padded {zs : List Int} (h : Byt zs) : Byt (padded zs) := by
  unfold YtcmaclaiholpfaaDoor.padded
  refine (h.append ?_).append ?_
  · refine Byt.append (a := [128]) (Byt.one (by omega) (by omega)) (Byt.rep (by omega) (by omega) _)
  · intro z hz
    unfold lenBytes at hz
    obtain ⟨i, _, rfl⟩ := List.mem_map.1 hz
    have := Nat.mod_lt (8 * zs.length / 2 ^ (8 * (7 - i))) (show 256 > 0 by omega)
    omega
theorem padded_len (zs : List Int) : (padded zs).length = zs.length + 1 + noughts zs.length + 8 := by
  simp [padded, lenBytes]; omega
theorem padded_mod (zs : List Int) : (padded zs).length % 64 = 0 := by
  rw [padded_len]; unfold noughts; omega
theorem padded_le (zs : List Int) : (padded zs).length ≤ zs.length + 80 := by
  rw [padded_len]; have := noughts_lt zs.length; omega
theorem ks_lt : ∀ x ∈ Ks, x < 4294967296 := by decide
theorem right_q (w : World) (j x n : Nat) (hx : x < 4294967296) (h1 : 1 ≤ n) (h2 : n ≤ 31) :
    Calls Tryd.prog 50 #[.int .u32 x, .int .i64 n] (w.drewN j) fun e w' => e = .returned (.int .u32 (rotr x n : Nat)) ∧ ∃ m, w' = w.drewN m :=
  (right_any (w.drewN j) x n hx h1 h2).mono fun e w' ⟨h, hw⟩ => ⟨h, j, hw.symm⟩
theorem cast_one (a b c d e : Nat) : ((a : Int) + (b : Int) + (c : Int) + (d : Int) + (e : Int)) % 4294967296 = (((a + b + c + d + e) % 4294967296 : Nat) : Int) := by
  have : ∀ M : Nat, ((a : Int) + (b : Int) + (c : Int) + (d : Int) + (e : Int)) % (M : Int) = (((a + b + c + d + e) % M : Nat) : Int) := by intro M; push_cast; rfl
  exact this 4294967296
theorem cast_two (a b : Nat) : ((a : Int) + (b : Int)) % 4294967296 = (((a + b) % 4294967296 : Nat) : Int) := by
  have : ∀ M : Nat, ((a : Int) + (b : Int)) % (M : Int) = (((a + b) % M : Nat) : Int) := by intro M; push_cast; rfl
  exact this 4294967296
theorem wrap_add (a b : Int) : IntKind.u32.wrap (a % 4294967296 + b) = (a + b) % 4294967296 := by rw [IntKind.wrap_u32]; omega
theorem big_facts {E F G : Nat} (lE : E < 4294967296) (lF : F < 4294967296) (lG : G < 4294967296) :
    bits .xor .u32 ((rotr E 6 : Nat) : Int) ((rotr E 11 : Nat) : Int) = ((rotr E 6 ^^^ rotr E 11 : Nat) : Int) ∧ bits .xor .u32 ((rotr E 6 ^^^ rotr E 11 : Nat) : Int) ((rotr E 25 : Nat) : Int) = ((big1 E : Nat) : Int) ∧
    bits .and .u32 (E : Int) (F : Int) = ((E &&& F : Nat) : Int) ∧ bits .xor .u32 (E : Int) 4294967295 = ((E ^^^ 4294967295 : Nat) : Int) ∧ bits .and .u32 ((E ^^^ 4294967295 : Nat) : Int) (G : Int) = (((E ^^^ 4294967295) &&& G : Nat) : Int) ∧
    bits .xor .u32 ((E &&& F : Nat) : Int) (((E ^^^ 4294967295) &&& G : Nat) : Int) = ((cho E F G : Nat) : Int) :=
  ⟨u32_xor_nat _ _ (rotr_lt lE) (rotr_lt lE), u32_xor_nat _ _ (xor_lt (rotr_lt lE) (rotr_lt lE)) (rotr_lt lE), u32_and_nat _ _ lE lF, u32_xor_nat E 4294967295 lE (by omega), u32_and_nat _ _ (xor_lt lE (by omega)) lG,
    u32_xor_nat _ _ (and_lt lE) (and_lt (xor_lt lE (by omega)))⟩
theorem maj_facts {A B C : Nat} (lA : A < 4294967296) (lB : B < 4294967296) (lC : C < 4294967296) :
    bits .xor .u32 ((rotr A 2 : Nat) : Int) ((rotr A 13 : Nat) : Int) = ((rotr A 2 ^^^ rotr A 13 : Nat) : Int) ∧ bits .xor .u32 ((rotr A 2 ^^^ rotr A 13 : Nat) : Int) ((rotr A 22 : Nat) : Int) = ((big0 A : Nat) : Int) ∧
    bits .and .u32 (A : Int) (B : Int) = ((A &&& B : Nat) : Int) ∧ bits .and .u32 (A : Int) (C : Int) = ((A &&& C : Nat) : Int) ∧ bits .xor .u32 ((A &&& B : Nat) : Int) ((A &&& C : Nat) : Int) = (((A &&& B) ^^^ (A &&& C) : Nat) : Int) ∧
    bits .and .u32 (B : Int) (C : Int) = ((B &&& C : Nat) : Int) ∧ bits .xor .u32 (((A &&& B) ^^^ (A &&& C) : Nat) : Int) ((B &&& C : Nat) : Int) = ((maj A B C : Nat) : Int) :=
  ⟨u32_xor_nat _ _ (rotr_lt lA) (rotr_lt lA), u32_xor_nat _ _ (xor_lt (rotr_lt lA) (rotr_lt lA)) (rotr_lt lA), u32_and_nat _ _ lA lB, u32_and_nat _ _ lA lC, u32_xor_nat _ _ (and_lt lA) (and_lt lA), u32_and_nat _ _ lB lC,
    u32_xor_nat _ _ (xor_lt (and_lt lA) (and_lt lA)) (and_lt lB)⟩
theorem copy8 (hs : List Nat) (i : Nat) (x : Nat) (hl : hs.length = 8) (hi : i < 8) (hx : hs[i]? = some x) : (hs.take i ++ List.replicate (8 - i) 0).set i x = hs.take (i + 1) ++ List.replicate (8 - (i + 1)) 0 := by
  have hlen : (hs.take i).length = i := by simp; omega
  rw [List.set_append, if_neg (by omega), hlen, Nat.sub_self, show 8 - i = (8 - (i + 1)) + 1 by omega, List.replicate_succ, List.set_cons_zero, List.take_add_one, hx]
  simp

theorem Base.there {w wr : World} {a' : Option Addr} {c' : Nat} {P : List Int} {hs : List Nat} (h : Base w a' c' P hs wr) {n : Nat} (hn : n = 32) : wr.there w.heap.size 0 n := by
  subst hn
  intro j hj
  rw [Nat.zero_add, h.o.cell (i := j) (v := .int .u8 0) (by rw [List.getElem?_replicate, if_pos hj])]
  exact ⟨rfl, h.o.free j⟩
theorem below_setCells (B b : Nat) (hb : B ≤ b) : ∀ (vs : List Value) (o : Nat) (a w : World), Below B a w → Below B a (w.setCells b o vs)
  | [], _, _, _, h => h
  | v :: r, o, a, w, h => below_setCells B b hb r (o + 1) a _ (h.setCell (p := ⟨b, o, none⟩) hb v)

theorem results_one {fn : Func} {p : Tmp} {ty : TypeId} (h : fn.results = #[.cell p ty]) (tmps : Array Value) (P : Program) (w : World) :
    (results fn tmps).run P w = ((asAddr (tmps.getD p undef)).run P w).andThen fun a w₁ => (loadVar ty a).run P w₁ := by
  simp only [results, h]
  simp [Sem.run_bind, Result.andThen]

/-- The steps of the shift down to place k are done: the places above k hold what stood below them. -/
def shl (v : List Nat) (k : Nat) : List Nat := v.take (k + 1) ++ (v.drop k).take (7 - k)
theorem shl_step {v : List Nat} (hv : v.length = 8) {k : Nat} (h0 : 0 < k) (h7 : k ≤ 7) : ∃ x, (shl v k)[k - 1]? = some x ∧ (∃ y, (shl v k)[k]? = some y) ∧ (shl v k).set k x = shl v (k - 1) := by
  match v, hv with
  | [a, b, c, d, e, f, g, h], _ =>
    rcases k with _ | _ | _ | _ | _ | _ | _ | _ | k
    all_goals first | exact ⟨_, rfl, ⟨_, rfl⟩, rfl⟩ | omega

theorem base_start (w w1 w2 : World) (a' : Option Addr) (c' : Nat) (P : List Int) (H : Array Value) (hH : H = (H0s.map word).toArray) (O : Array Value) (hO : O = (List.replicate 32 (Value.int .u8 0)).toArray)
    (hk : Blk32 w1 ((w.alloc (.cells O 46)).alloc (.cells H 23)).heap.size Ks) (hb1 : Below ((w.alloc (.cells O 46)).alloc (.cells H 23)).heap.size ((w.alloc (.cells O 46)).alloc (.cells H 23)) w1)
    (hp : Row8 w1.heap.size w2 a' P.length c' P) (hb2 : Below w1.heap.size w1 w2) : Base w a' c' P H0s w2 := by
  have e1 : ((w.alloc (.cells O 46)).alloc (.cells H 23)).heap.size = w.heap.size + 2 := by simp
  rw [e1] at hk hb1
  have hs1 := hk.lt
  have hs2 := hb2.size
  have hBlk : Blk32 ((w.alloc (.cells O 46)).alloc (.cells H 23)) (w.heap.size + 1) H0s := by
    unfold Blk32
    rw [← hH]
    have := heap_alloc_new (w.alloc (.cells O 46)) (.cells H 23)
    simpa only [World.size_alloc] using this
  have hArr : Arr ((w.alloc (.cells O 46)).alloc (.cells H 23)) w.heap.size 46 (List.replicate 32 (.int .u8 0)) := by
    unfold Arr
    rw [← hO, Below.heap_alloc _ _ _ (by simp)]
    exact heap_alloc_new _ _
  have hb0 : Below w.heap.size w ((w.alloc (.cells O 46)).alloc (.cells H 23)) := ((Below.refl _ _).alloc (Nat.le_refl _) _).alloc (by simp) _
  exact ⟨(hBlk.belowAt hb1 (by omega)).belowAt hb2 (by omega), hk.belowAt hb2 (by omega), hp.lower (by omega), (hArr.below hb1 (by omega)).below hb2 (by omega), hb0.trans ((hb1.mono (by omega)).trans (hb2.mono (by omega))), by omega⟩

set_option maxRecDepth 100000 in
set_option maxHeartbeats 6400000 in
theorem sum_any (a : Option Addr) (len cap : Nat) (zs : List Int) (w : World) (hr : Reads w a len zs) (hby : Byt zs) (hl : len ≤ 1099511627776) :
    Calls Tryd.prog 37 #[.slice a len cap] w fun e w' => e = .returned (.agg ((sha zs).map (Value.int .u8)).toArray) ∧ Below w.heap.size w w' := by
  have HR := Lib.hid hr
  have HBY := Lib.hid hby
  clear hr hby
  go_enter Tryd.func37, Tryd.ntmps37
  go_wp2_with fail
  refine (constants_any _).mono ?_
  rintro e w1 ⟨rfl, hk1, hb1⟩
  have hrd : Reads w1 a len zs := HR.out.below (Below.trans (((Below.refl _ _).alloc (Nat.le_refl _) _).alloc (by simp) _) (hb1.mono (by simp; omega)))
  have hsz1 : w.heap.size + 2 < w1.heap.size := by have := hk1.lt; simpa using this
  have hwh := whole_any a len cap zs w1 hrd hl
  have HK := Lib.hid (And.intro hk1 hb1)
  clear hk1 hb1 hrd
  go_wp2_with fail
  refine hwh.mono ?_
  rintro e w2 ⟨a', c', rfl, hp, hb2⟩
  have hbase : Base w a' c' (padded zs) H0s w2 := base_start w w1 w2 a' c' (padded zs) _ (by rfl) _ (by rfl) HK.out.1 HK.out.2 hp hb2
  have hplen : (padded zs).length % 64 = 0 := padded_mod zs
  obtain ⟨N, hN⟩ : ∃ N, (padded zs).length = 64 * N := ⟨(padded zs).length / 64, by omega⟩
  have hN2 : N ≤ 17179869186 := by
    have : (padded zs).length ≤ len + 80 := by rw [← HR.out.1]; exact padded_le zs
    omega
  have hN1 : 1 ≤ N := by
    have : 0 < (padded zs).length := by rw [padded_len]; omega
    omega
  obtain ⟨gp, rfl, hgp, hc', hgl⟩ := hbase.p.some_of (by omega)
  rw [hN] at hc'
  have HBASE := Lib.hid hbase
  have HP := Lib.hid hN
  clear hwh hp hb2 hbase hplen HK
  rw [hN]
  clear hN
  have eB1 : ((w.alloc (.cells #[.int .u8 0] 0)).heap.size) = w.heap.size + 1 := by simp
  clear eB1
  go_wp2
  go_loopw [6] (fun at_ wr => ∃ n : Nat, n ≤ N ∧ at_ = .int .i64 ((64 * n : Nat) : Int) ∧ Base w (some ⟨gp, 0, none⟩) c' (padded zs) (absorb H0s (padded zs) n) wr) (fun at_ _ => 64 * N - (intOf at_).toNat)
  case atStart => exact ⟨0, by omega, rfl, HBASE.out⟩
  case round =>
    obtain ⟨n, hn, rfl, hbs⟩ := hrel
    by_cases hlt : n < N
    · have HBS := Lib.hid hbs
      have gc : (64 * (n : Int) + 64) ≤ (c' : Int) := by omega
      clear hbs
      have hrb : Reads wr (some ⟨gp, 64 * n, none⟩) 64 (((padded zs).drop (64 * n)).take 64) := by
        have h1 := HBS.out.p.reads
        rw [HP.out] at h1
        have h2 := h1.part (64 * n) 64 (by omega)
        rwa [Nat.zero_add] at h2
      have hbb : Byt (((padded zs).drop (64 * n)).take 64) := (HBY.out.padded.drop _).take _
      have hwd := words_any wr gp (64 * n) (c' - 64 * n) _ hrb hbb
      have h8 := eight_absorb eight_H0 (padded zs) n
      have hnext : absorb H0s (padded zs) (n + 1) = addL (absorb H0s (padded zs) n) (rounds (wlist (((padded zs).drop (64 * n)).take 64) 64) (absorb H0s (padded zs) n) 64) := rfl
      generalize absorb H0s (padded zs) n = hs at *
      have hwlt := wlist_lt hbb 64
      have hwlen := wlist_len (((padded zs).drop (64 * n)).take 64) 64
      generalize wlist (((padded zs).drop (64 * n)).take 64) 64 = WW at *
      have HNX := Lib.hid hnext
      have HW8 := Lib.hid (And.intro h8 (And.intro hwlt hwlen))
      clear hrb hbb hnext h8 hwlt hwlen
      go_wp2_with fail
      refine hwd.mono ?_
      rintro e w3 ⟨rfl, hw3, hb3⟩
      have hwbl := hw3.lt
      have hbsz := HBS.out.sz
      generalize hwb : wr.heap.size = wb at *
      have HWB := Lib.hid hwb
      have HW3 := Lib.hid hw3
      have HB3 := Lib.hid hb3
      clear hwd hw3 hb3 hwb
      have infoW : (Tryd.prog.info? 23).map (fun i => (i.zero, i.size, i.bytes)) = some (some (.int .u32 0), 1, 4) := by kernel_rfl
      have hmk := fun W => run_make_row' (P := Tryd.prog) 54 23 (.int .u32 0) 4 Tryd.underlying54 infoW rfl .i64 .i64 8 (by omega) (by omega) W
      rw [show ((8 : Nat) : Int) = 8 from rfl] at hmk
      have H0 := Lib.hid (blk32_made w3 8)
      clear infoW
      go_wp2
      clear hmk
      generalize hab : w3.heap.size = ab at *
      have HAB := Lib.hid hab
      clear hab
      go_loopw [9] (fun i wi => ∃ k : Nat, k ≤ 8 ∧ i = .int .i64 k ∧ Blk32 wi ab (hs.take k ++ List.replicate (8 - k) 0) ∧ Below ab w3 wi) (fun i _ => 8 - (intOf i).toNat)
      case atStart => exact ⟨0, by omega, rfl, by simpa using H0.out, (Below.refl _ _).alloc (by rw [HAB.out]; exact Nat.le_refl _) _⟩
      case round =>
        obtain ⟨k, hk, rfl, ha, hb⟩ := hrel
        by_cases hk8 : k < 8
        · obtain ⟨x, hx, gx⟩ := HW8.out.1.at hk8
          have ch := (((HBS.out.h.belowAt HB3.out (by omega)).belowAt hb (by omega))).cell gx
          have gk : (k : Int) < 8 := by omega
          have ca := ha.cell (i := k) (x := 0) (by
            have hl : (hs.take k).length = k := by have := HW8.out.1.len; simp; omega
            rw [List.getElem?_append_right (by omega), hl, Nat.sub_self, List.getElem?_replicate, if_pos (by omega)])
          have fa := ha.free k
          have HA := Lib.hid ha
          have HBI := Lib.hid hb
          have GX := Lib.hid gx
          clear ha hb gx
          go_wp2
          go_roundw
          case rel => exact ⟨k + 1, by omega, by go_num, by have := HA.out.set k x; rwa [copy8 hs k x HW8.out.1.len hk8 GX.out] at this, HBI.out.setCell (Nat.le_refl _) _⟩
          case measure => simp [intOf]; omega
        · obtain rfl : k = 8 := by omega
          rw [show ((8 : Nat) : Int) = 8 from rfl]
          have HA := Lib.hid (show Blk32 _ ab hs by simpa [List.take_of_length_le (Nat.le_of_eq HW8.out.1.len)] using ha)
          have HBI := Lib.hid hb
          clear ha hb
          go_wp2
          go_loopw [10] (fun i wi => ∃ t : Nat, t ≤ 64 ∧ i = .int .i64 t ∧ Blk32 wi ab (rounds WW hs t) ∧ Below ab w3 wi) (fun i _ => 64 - (intOf i).toNat)
          case atStart => exact ⟨0, by omega, rfl, HA.out, HBI.out⟩
          case round =>
            obtain ⟨t, ht, rfl, ha, hb⟩ := hrel
            by_cases ht64 : t < 64
            · obtain ⟨A, B, C, D, E, F, G, H, hv, lA, lB, lC, lD, lE, lF, lG, lH⟩ := eight_rounds HW8.out.1 (ws := WW) t
              have hstep : rounds WW hs (t + 1) = stepL (Ks[t]?.getD 0) (WW[t]?.getD 0) (rounds WW hs t) := rfl
              rw [hv] at ha hstep
              have hwt : t < WW.length := by rw [HW8.out.2.2]; exact ht64
              have hkt : t < Ks.length := ht64
              have gw : WW[t]? = some WW[t] := by simp [hwt]
              have gkk : Ks[t]? = some Ks[t] := by simp [hkt]
              have lw := HW8.out.2.1 WW[t] (List.getElem_mem hwt)
              have lk : Ks[t] < 4294967296 := ks_lt _ (List.getElem_mem hkt)
              rw [gw, gkk] at hstep
              have GWT := Lib.hid gw
              have GKT := Lib.hid gkk
              have HI0 := Lib.hid (And.intro ha (And.intro ((HBS.out.k.belowAt HB3.out (by omega)).belowAt hb (by omega)) (And.intro (HW3.out.belowAt hb (by omega)) hb)))
              simp only [Option.getD_some] at hstep
              generalize WW[t] = wt at *
              generalize Ks[t] = kt at *
              have gt : (t : Int) < 64 := by omega
              have gt0 : (0 : Int) ≤ t := by omega
              have GT := Lib.hid (And.intro gt0 gt)
              have HST := Lib.hid hstep
              have XA := Lib.hid (big_facts lE lF lG)
              have XB := Lib.hid (maj_facts lA lB lC)
              clear ha hb hv hstep gw gkk hwt hkt
              go_wp2
              refine wp_region_any (by kernel_rfl) ?_
              refine Vals.wpAny_vals [(49, .slice (some ⟨ab, 0, none⟩) 8 8), (50, .pointer (some ⟨ab, 7, none⟩)), (51, .int .u32 (H : Int)), (52, .slice (some ⟨ab, 0, none⟩) 8 8), (53, .pointer (some ⟨ab, 4, none⟩)), (54, .int .u32 (E : Int)), (55, .int .u32 ((rotr E 6 : Nat) : Int)), (56, .slice (some ⟨ab, 0, none⟩) 8 8), (57, .pointer (some ⟨ab, 4, none⟩)), (58, .int .u32 (E : Int)), (59, .int .u32 ((rotr E 11 : Nat) : Int)), (60, .int .u32 ((rotr E 6 ^^^ rotr E 11 : Nat) : Int)), (61, .slice (some ⟨ab, 0, none⟩) 8 8), (62, .pointer (some ⟨ab, 4, none⟩)), (63, .int .u32 (E : Int)), (64, .int .u32 ((rotr E 25 : Nat) : Int)), (65, .int .u32 ((big1 E : Nat) : Int)), (66, .int .u32 (((H : Int) + ((big1 E : Nat) : Int)) % 4294967296)), (67, .slice (some ⟨ab, 0, none⟩) 8 8), (68, .pointer (some ⟨ab, 4, none⟩)), (69, .int .u32 (E : Int)), (70, .slice (some ⟨ab, 0, none⟩) 8 8), (71, .pointer (some ⟨ab, 5, none⟩)), (72, .int .u32 (F : Int)), (73, .int .u32 ((E &&& F : Nat) : Int)), (74, .slice (some ⟨ab, 0, none⟩) 8 8), (75, .pointer (some ⟨ab, 4, none⟩)), (76, .int .u32 (E : Int)), (77, .int .u32 ((E ^^^ 4294967295 : Nat) : Int)), (78, .slice (some ⟨ab, 0, none⟩) 8 8), (79, .pointer (some ⟨ab, 6, none⟩)), (80, .int .u32 (G : Int)), (81, .int .u32 (((E ^^^ 4294967295) &&& G : Nat) : Int)), (82, .int .u32 ((cho E F G : Nat) : Int)), (83, .int .u32 (((H : Int) + ((big1 E : Nat) : Int) + ((cho E F G : Nat) : Int)) % 4294967296)), (84, .slice (some ⟨w.heap.size + 2, 0, none⟩) 64 64), (85, .int .i64 (t : Int)), (86, .pointer (some ⟨w.heap.size + 2, t, none⟩)), (87, .int .u32 (kt : Int)), (88, .int .u32 (((H : Int) + ((big1 E : Nat) : Int) + ((cho E F G : Nat) : Int) + (kt : Int)) % 4294967296)), (89, .slice (some ⟨wb, 0, none⟩) 64 64), (90, .int .i64 (t : Int)), (91, .pointer (some ⟨wb, t, none⟩)), (92, .int .u32 (wt : Int)), (93, .int .u32 (((H : Int) + ((big1 E : Nat) : Int) + ((cho E F G : Nat) : Int) + (kt : Int) + (wt : Int)) % 4294967296)), (11, .int .u32 (((H : Int) + ((big1 E : Nat) : Int) + ((cho E F G : Nat) : Int) + (kt : Int) + (wt : Int)) % 4294967296))] [49, 50, 51, 52, 53, 54, 55, 56, 57, 58, 59, 60, 61, 62, 63, 64, 65, 66, 67, 68, 69, 70, 71, 72, 73, 74, 75, 76, 77, 78, 79, 80, 81, 82, 83, 84, 85, 86, 87, 88, 89, 90, 91, 92, 93, 11] 191 (fun W => Blk32 W ab [A, B, C, D, E, F, G, H] ∧ Blk32 W (w.heap.size + 2) Ks ∧ Blk32 W wb WW ∧ Below ab w3 W) _ _ rfl (by kernel_rfl) rfl (by kernel_rfl) (by decide) ?stepA ?finA ⟨HI0.out.1, HI0.out.2.1, HI0.out.2.2.1, HI0.out.2.2.2.drew⟩
              case stepA =>
                intro i o p ho hp a W hI hdf hdep hfr K hK
                match i, ho, hp with
                | 0, ho, hp =>
                  have ho' := ho
                  simp only [List.getElem?_toArray, List.getElem?_cons_zero, Option.some.injEq] at ho hp
                  subst ho hp
                  have r8 : a.eval (.tmp 8) = .slice (some ⟨ab, 0, none⟩) 8 8 := hfr 8 (by decide)
                  rw [Vals.eval_tmp] at r8
                  refine Vals.wpOp_run ho' rfl ?_
                  clear hdf hdep hfr ho'
                  go_simp
                  exact hK _ hI
                | 1, ho, hp =>
                  have ho' := ho
                  simp only [List.getElem?_toArray, List.getElem?_cons_zero, List.getElem?_cons_succ, Option.some.injEq] at ho hp
                  subst ho hp
                  have r49 : a.eval (.tmp 49) = .slice (some ⟨ab, 0, none⟩) 8 8 := hdep ⟨0, .data⟩ (by simp) rfl (49, .slice (some ⟨ab, 0, none⟩) 8 8) rfl
                  rw [Vals.eval_tmp] at r49
                  refine Vals.wpOp_run ho' rfl ?_
                  clear hdf hdep hfr ho'
                  go_simp
                  exact hK _ hI
                | 2, ho, hp =>
                  have ho' := ho
                  simp only [List.getElem?_toArray, List.getElem?_cons_zero, List.getElem?_cons_succ, Option.some.injEq] at ho hp
                  subst ho hp
                  have r50 : a.eval (.tmp 50) = .pointer (some ⟨ab, 7, none⟩) := hdep ⟨1, .data⟩ (by simp) rfl (50, .pointer (some ⟨ab, 7, none⟩)) rfl
                  rw [Vals.eval_tmp] at r50
                  have cx := hI.1.cell (i := 7) (x := H) rfl
                  refine Vals.wpOp_run ho' rfl ?_
                  clear hdf hdep hfr ho'
                  go_simp
                  exact hK _ hI
                | 3, ho, hp =>
                  have ho' := ho
                  simp only [List.getElem?_toArray, List.getElem?_cons_zero, List.getElem?_cons_succ, Option.some.injEq] at ho hp
                  subst ho hp
                  have r8 : a.eval (.tmp 8) = .slice (some ⟨ab, 0, none⟩) 8 8 := hfr 8 (by decide)
                  rw [Vals.eval_tmp] at r8
                  refine Vals.wpOp_run ho' rfl ?_
                  clear hdf hdep hfr ho'
                  go_simp
                  exact hK _ hI
                | 4, ho, hp =>
                  have ho' := ho
                  simp only [List.getElem?_toArray, List.getElem?_cons_zero, List.getElem?_cons_succ, Option.some.injEq] at ho hp
                  subst ho hp
                  have r52 : a.eval (.tmp 52) = .slice (some ⟨ab, 0, none⟩) 8 8 := hdep ⟨3, .data⟩ (by simp) rfl (52, .slice (some ⟨ab, 0, none⟩) 8 8) rfl
                  rw [Vals.eval_tmp] at r52
                  refine Vals.wpOp_run ho' rfl ?_
                  clear hdf hdep hfr ho'
                  go_simp
                  exact hK _ hI
                | 5, ho, hp =>
                  have ho' := ho
                  simp only [List.getElem?_toArray, List.getElem?_cons_zero, List.getElem?_cons_succ, Option.some.injEq] at ho hp
                  subst ho hp
                  have r53 : a.eval (.tmp 53) = .pointer (some ⟨ab, 4, none⟩) := hdep ⟨4, .data⟩ (by simp) rfl (53, .pointer (some ⟨ab, 4, none⟩)) rfl
                  rw [Vals.eval_tmp] at r53
                  have cx := hI.1.cell (i := 4) (x := E) rfl
                  refine Vals.wpOp_run ho' rfl ?_
                  clear hdf hdep hfr ho'
                  go_simp
                  exact hK _ hI
                | 6, ho, hp =>
                  have ho' := ho
                  simp only [List.getElem?_toArray, List.getElem?_cons_zero, List.getElem?_cons_succ, Option.some.injEq] at ho hp
                  subst ho hp
                  have r54 : a.eval (.tmp 54) = .int .u32 (E : Int) := hdep ⟨5, .data⟩ (by simp) rfl (54, .int .u32 (E : Int)) rfl
                  rw [Vals.eval_tmp] at r54
                  refine Vals.wpOp_run ho' rfl ?_
                  clear hdf hdep hfr ho'
                  go_simp
                  refine (right_any _ E 6 lE (by omega) (by omega)).mono ?_
                  rintro e w' ⟨rfl, rfl⟩
                  exact hK _ hI
                | 7, ho, hp =>
                  have ho' := ho
                  simp only [List.getElem?_toArray, List.getElem?_cons_zero, List.getElem?_cons_succ, Option.some.injEq] at ho hp
                  subst ho hp
                  have r8 : a.eval (.tmp 8) = .slice (some ⟨ab, 0, none⟩) 8 8 := hfr 8 (by decide)
                  rw [Vals.eval_tmp] at r8
                  refine Vals.wpOp_run ho' rfl ?_
                  clear hdf hdep hfr ho'
                  go_simp
                  exact hK _ hI
                | 8, ho, hp =>
                  have ho' := ho
                  simp only [List.getElem?_toArray, List.getElem?_cons_zero, List.getElem?_cons_succ, Option.some.injEq] at ho hp
                  subst ho hp
                  have r56 : a.eval (.tmp 56) = .slice (some ⟨ab, 0, none⟩) 8 8 := hdep ⟨7, .data⟩ (by simp) rfl (56, .slice (some ⟨ab, 0, none⟩) 8 8) rfl
                  rw [Vals.eval_tmp] at r56
                  refine Vals.wpOp_run ho' rfl ?_
                  clear hdf hdep hfr ho'
                  go_simp
                  exact hK _ hI
                | 9, ho, hp =>
                  have ho' := ho
                  simp only [List.getElem?_toArray, List.getElem?_cons_zero, List.getElem?_cons_succ, Option.some.injEq] at ho hp
                  subst ho hp
                  have r57 : a.eval (.tmp 57) = .pointer (some ⟨ab, 4, none⟩) := hdep ⟨8, .data⟩ (by simp) rfl (57, .pointer (some ⟨ab, 4, none⟩)) rfl
                  rw [Vals.eval_tmp] at r57
                  have cx := hI.1.cell (i := 4) (x := E) rfl
                  refine Vals.wpOp_run ho' rfl ?_
                  clear hdf hdep hfr ho'
                  go_simp
                  exact hK _ hI
                | 10, ho, hp =>
                  have ho' := ho
                  simp only [List.getElem?_toArray, List.getElem?_cons_zero, List.getElem?_cons_succ, Option.some.injEq] at ho hp
                  subst ho hp
                  have r58 : a.eval (.tmp 58) = .int .u32 (E : Int) := hdep ⟨9, .data⟩ (by simp) rfl (58, .int .u32 (E : Int)) rfl
                  rw [Vals.eval_tmp] at r58
                  refine Vals.wpOp_run ho' rfl ?_
                  clear hdf hdep hfr ho'
                  go_simp
                  refine (right_any _ E 11 lE (by omega) (by omega)).mono ?_
                  rintro e w' ⟨rfl, rfl⟩
                  exact hK _ hI
                | 11, ho, hp =>
                  have ho' := ho
                  simp only [List.getElem?_toArray, List.getElem?_cons_zero, List.getElem?_cons_succ, Option.some.injEq] at ho hp
                  subst ho hp
                  have r55 : a.eval (.tmp 55) = .int .u32 ((rotr E 6 : Nat) : Int) := hdep ⟨6, .data⟩ (by simp) rfl (55, .int .u32 ((rotr E 6 : Nat) : Int)) rfl
                  rw [Vals.eval_tmp] at r55
                  have r59 : a.eval (.tmp 59) = .int .u32 ((rotr E 11 : Nat) : Int) := hdep ⟨10, .data⟩ (by simp) rfl (59, .int .u32 ((rotr E 11 : Nat) : Int)) rfl
                  rw [Vals.eval_tmp] at r59
                  have hx := XA.out.1
                  refine Vals.wpOp_run ho' rfl ?_
                  clear hdf hdep hfr ho'
                  go_simp
                  exact hK _ hI
                | 12, ho, hp =>
                  have ho' := ho
                  simp only [List.getElem?_toArray, List.getElem?_cons_zero, List.getElem?_cons_succ, Option.some.injEq] at ho hp
                  subst ho hp
                  have r8 : a.eval (.tmp 8) = .slice (some ⟨ab, 0, none⟩) 8 8 := hfr 8 (by decide)
                  rw [Vals.eval_tmp] at r8
                  refine Vals.wpOp_run ho' rfl ?_
                  clear hdf hdep hfr ho'
                  go_simp
                  exact hK _ hI
                | 13, ho, hp =>
                  have ho' := ho
                  simp only [List.getElem?_toArray, List.getElem?_cons_zero, List.getElem?_cons_succ, Option.some.injEq] at ho hp
                  subst ho hp
                  have r61 : a.eval (.tmp 61) = .slice (some ⟨ab, 0, none⟩) 8 8 := hdep ⟨12, .data⟩ (by simp) rfl (61, .slice (some ⟨ab, 0, none⟩) 8 8) rfl
                  rw [Vals.eval_tmp] at r61
                  refine Vals.wpOp_run ho' rfl ?_
                  clear hdf hdep hfr ho'
                  go_simp
                  exact hK _ hI
                | 14, ho, hp =>
                  have ho' := ho
                  simp only [List.getElem?_toArray, List.getElem?_cons_zero, List.getElem?_cons_succ, Option.some.injEq] at ho hp
                  subst ho hp
                  have r62 : a.eval (.tmp 62) = .pointer (some ⟨ab, 4, none⟩) := hdep ⟨13, .data⟩ (by simp) rfl (62, .pointer (some ⟨ab, 4, none⟩)) rfl
                  rw [Vals.eval_tmp] at r62
                  have cx := hI.1.cell (i := 4) (x := E) rfl
                  refine Vals.wpOp_run ho' rfl ?_
                  clear hdf hdep hfr ho'
                  go_simp
                  exact hK _ hI
                | 15, ho, hp =>
                  have ho' := ho
                  simp only [List.getElem?_toArray, List.getElem?_cons_zero, List.getElem?_cons_succ, Option.some.injEq] at ho hp
                  subst ho hp
                  have r63 : a.eval (.tmp 63) = .int .u32 (E : Int) := hdep ⟨14, .data⟩ (by simp) rfl (63, .int .u32 (E : Int)) rfl
                  rw [Vals.eval_tmp] at r63
                  refine Vals.wpOp_run ho' rfl ?_
                  clear hdf hdep hfr ho'
                  go_simp
                  refine (right_any _ E 25 lE (by omega) (by omega)).mono ?_
                  rintro e w' ⟨rfl, rfl⟩
                  exact hK _ hI
                | 16, ho, hp =>
                  have ho' := ho
                  simp only [List.getElem?_toArray, List.getElem?_cons_zero, List.getElem?_cons_succ, Option.some.injEq] at ho hp
                  subst ho hp
                  have r60 : a.eval (.tmp 60) = .int .u32 ((rotr E 6 ^^^ rotr E 11 : Nat) : Int) := hdep ⟨11, .data⟩ (by simp) rfl (60, .int .u32 ((rotr E 6 ^^^ rotr E 11 : Nat) : Int)) rfl
                  rw [Vals.eval_tmp] at r60
                  have r64 : a.eval (.tmp 64) = .int .u32 ((rotr E 25 : Nat) : Int) := hdep ⟨15, .data⟩ (by simp) rfl (64, .int .u32 ((rotr E 25 : Nat) : Int)) rfl
                  rw [Vals.eval_tmp] at r64
                  have hx := XA.out.2.1
                  refine Vals.wpOp_run ho' rfl ?_
                  clear hdf hdep hfr ho'
                  go_simp
                  exact hK _ hI
                | 17, ho, hp =>
                  have ho' := ho
                  simp only [List.getElem?_toArray, List.getElem?_cons_zero, List.getElem?_cons_succ, Option.some.injEq] at ho hp
                  subst ho hp
                  have r51 : a.eval (.tmp 51) = .int .u32 (H : Int) := hdep ⟨2, .data⟩ (by simp) rfl (51, .int .u32 (H : Int)) rfl
                  rw [Vals.eval_tmp] at r51
                  have r65 : a.eval (.tmp 65) = .int .u32 ((big1 E : Nat) : Int) := hdep ⟨16, .data⟩ (by simp) rfl (65, .int .u32 ((big1 E : Nat) : Int)) rfl
                  rw [Vals.eval_tmp] at r65
                  refine Vals.wpOp_run ho' rfl ?_
                  clear hdf hdep hfr ho'
                  go_simp
                  exact hK _ hI
                | 18, ho, hp =>
                  have ho' := ho
                  simp only [List.getElem?_toArray, List.getElem?_cons_zero, List.getElem?_cons_succ, Option.some.injEq] at ho hp
                  subst ho hp
                  have r8 : a.eval (.tmp 8) = .slice (some ⟨ab, 0, none⟩) 8 8 := hfr 8 (by decide)
                  rw [Vals.eval_tmp] at r8
                  refine Vals.wpOp_run ho' rfl ?_
                  clear hdf hdep hfr ho'
                  go_simp
                  exact hK _ hI
                | 19, ho, hp =>
                  have ho' := ho
                  simp only [List.getElem?_toArray, List.getElem?_cons_zero, List.getElem?_cons_succ, Option.some.injEq] at ho hp
                  subst ho hp
                  have r67 : a.eval (.tmp 67) = .slice (some ⟨ab, 0, none⟩) 8 8 := hdep ⟨18, .data⟩ (by simp) rfl (67, .slice (some ⟨ab, 0, none⟩) 8 8) rfl
                  rw [Vals.eval_tmp] at r67
                  refine Vals.wpOp_run ho' rfl ?_
                  clear hdf hdep hfr ho'
                  go_simp
                  exact hK _ hI
                | 20, ho, hp =>
                  have ho' := ho
                  simp only [List.getElem?_toArray, List.getElem?_cons_zero, List.getElem?_cons_succ, Option.some.injEq] at ho hp
                  subst ho hp
                  have r68 : a.eval (.tmp 68) = .pointer (some ⟨ab, 4, none⟩) := hdep ⟨19, .data⟩ (by simp) rfl (68, .pointer (some ⟨ab, 4, none⟩)) rfl
                  rw [Vals.eval_tmp] at r68
                  have cx := hI.1.cell (i := 4) (x := E) rfl
                  refine Vals.wpOp_run ho' rfl ?_
                  clear hdf hdep hfr ho'
                  go_simp
                  exact hK _ hI
                | 21, ho, hp =>
                  have ho' := ho
                  simp only [List.getElem?_toArray, List.getElem?_cons_zero, List.getElem?_cons_succ, Option.some.injEq] at ho hp
                  subst ho hp
                  have r8 : a.eval (.tmp 8) = .slice (some ⟨ab, 0, none⟩) 8 8 := hfr 8 (by decide)
                  rw [Vals.eval_tmp] at r8
                  refine Vals.wpOp_run ho' rfl ?_
                  clear hdf hdep hfr ho'
                  go_simp
                  exact hK _ hI
                | 22, ho, hp =>
                  have ho' := ho
                  simp only [List.getElem?_toArray, List.getElem?_cons_zero, List.getElem?_cons_succ, Option.some.injEq] at ho hp
                  subst ho hp
                  have r70 : a.eval (.tmp 70) = .slice (some ⟨ab, 0, none⟩) 8 8 := hdep ⟨21, .data⟩ (by simp) rfl (70, .slice (some ⟨ab, 0, none⟩) 8 8) rfl
                  rw [Vals.eval_tmp] at r70
                  refine Vals.wpOp_run ho' rfl ?_
                  clear hdf hdep hfr ho'
                  go_simp
                  exact hK _ hI
                | 23, ho, hp =>
                  have ho' := ho
                  simp only [List.getElem?_toArray, List.getElem?_cons_zero, List.getElem?_cons_succ, Option.some.injEq] at ho hp
                  subst ho hp
                  have r71 : a.eval (.tmp 71) = .pointer (some ⟨ab, 5, none⟩) := hdep ⟨22, .data⟩ (by simp) rfl (71, .pointer (some ⟨ab, 5, none⟩)) rfl
                  rw [Vals.eval_tmp] at r71
                  have cx := hI.1.cell (i := 5) (x := F) rfl
                  refine Vals.wpOp_run ho' rfl ?_
                  clear hdf hdep hfr ho'
                  go_simp
                  exact hK _ hI
                | 24, ho, hp =>
                  have ho' := ho
                  simp only [List.getElem?_toArray, List.getElem?_cons_zero, List.getElem?_cons_succ, Option.some.injEq] at ho hp
                  subst ho hp
                  have r69 : a.eval (.tmp 69) = .int .u32 (E : Int) := hdep ⟨20, .data⟩ (by simp) rfl (69, .int .u32 (E : Int)) rfl
                  rw [Vals.eval_tmp] at r69
                  have r72 : a.eval (.tmp 72) = .int .u32 (F : Int) := hdep ⟨23, .data⟩ (by simp) rfl (72, .int .u32 (F : Int)) rfl
                  rw [Vals.eval_tmp] at r72
                  have hx := XA.out.2.2.1
                  refine Vals.wpOp_run ho' rfl ?_
                  clear hdf hdep hfr ho'
                  go_simp
                  exact hK _ hI
                | 25, ho, hp =>
                  have ho' := ho
                  simp only [List.getElem?_toArray, List.getElem?_cons_zero, List.getElem?_cons_succ, Option.some.injEq] at ho hp
                  subst ho hp
                  have r8 : a.eval (.tmp 8) = .slice (some ⟨ab, 0, none⟩) 8 8 := hfr 8 (by decide)
                  rw [Vals.eval_tmp] at r8
                  refine Vals.wpOp_run ho' rfl ?_
                  clear hdf hdep hfr ho'
                  go_simp
                  exact hK _ hI
                | 26, ho, hp =>
                  have ho' := ho
                  simp only [List.getElem?_toArray, List.getElem?_cons_zero, List.getElem?_cons_succ, Option.some.injEq] at ho hp
                  subst ho hp
                  have r74 : a.eval (.tmp 74) = .slice (some ⟨ab, 0, none⟩) 8 8 := hdep ⟨25, .data⟩ (by simp) rfl (74, .slice (some ⟨ab, 0, none⟩) 8 8) rfl
                  rw [Vals.eval_tmp] at r74
                  refine Vals.wpOp_run ho' rfl ?_
                  clear hdf hdep hfr ho'
                  go_simp
                  exact hK _ hI
                | 27, ho, hp =>
                  have ho' := ho
                  simp only [List.getElem?_toArray, List.getElem?_cons_zero, List.getElem?_cons_succ, Option.some.injEq] at ho hp
                  subst ho hp
                  have r75 : a.eval (.tmp 75) = .pointer (some ⟨ab, 4, none⟩) := hdep ⟨26, .data⟩ (by simp) rfl (75, .pointer (some ⟨ab, 4, none⟩)) rfl
                  rw [Vals.eval_tmp] at r75
                  have cx := hI.1.cell (i := 4) (x := E) rfl
                  refine Vals.wpOp_run ho' rfl ?_
                  clear hdf hdep hfr ho'
                  go_simp
                  exact hK _ hI
                | 28, ho, hp =>
                  have ho' := ho
                  simp only [List.getElem?_toArray, List.getElem?_cons_zero, List.getElem?_cons_succ, Option.some.injEq] at ho hp
                  subst ho hp
                  have r76 : a.eval (.tmp 76) = .int .u32 (E : Int) := hdep ⟨27, .data⟩ (by simp) rfl (76, .int .u32 (E : Int)) rfl
                  rw [Vals.eval_tmp] at r76
                  have hx := XA.out.2.2.2.1
                  refine Vals.wpOp_run ho' rfl ?_
                  clear hdf hdep hfr ho'
                  go_simp
                  exact hK _ hI
                | 29, ho, hp =>
                  have ho' := ho
                  simp only [List.getElem?_toArray, List.getElem?_cons_zero, List.getElem?_cons_succ, Option.some.injEq] at ho hp
                  subst ho hp
                  have r8 : a.eval (.tmp 8) = .slice (some ⟨ab, 0, none⟩) 8 8 := hfr 8 (by decide)
                  rw [Vals.eval_tmp] at r8
                  refine Vals.wpOp_run ho' rfl ?_
                  clear hdf hdep hfr ho'
                  go_simp
                  exact hK _ hI
                | 30, ho, hp =>
                  have ho' := ho
                  simp only [List.getElem?_toArray, List.getElem?_cons_zero, List.getElem?_cons_succ, Option.some.injEq] at ho hp
                  subst ho hp
                  have r78 : a.eval (.tmp 78) = .slice (some ⟨ab, 0, none⟩) 8 8 := hdep ⟨29, .data⟩ (by simp) rfl (78, .slice (some ⟨ab, 0, none⟩) 8 8) rfl
                  rw [Vals.eval_tmp] at r78
                  refine Vals.wpOp_run ho' rfl ?_
                  clear hdf hdep hfr ho'
                  go_simp
                  exact hK _ hI
                | 31, ho, hp =>
                  have ho' := ho
                  simp only [List.getElem?_toArray, List.getElem?_cons_zero, List.getElem?_cons_succ, Option.some.injEq] at ho hp
                  subst ho hp
                  have r79 : a.eval (.tmp 79) = .pointer (some ⟨ab, 6, none⟩) := hdep ⟨30, .data⟩ (by simp) rfl (79, .pointer (some ⟨ab, 6, none⟩)) rfl
                  rw [Vals.eval_tmp] at r79
                  have cx := hI.1.cell (i := 6) (x := G) rfl
                  refine Vals.wpOp_run ho' rfl ?_
                  clear hdf hdep hfr ho'
                  go_simp
                  exact hK _ hI
                | 32, ho, hp =>
                  have ho' := ho
                  simp only [List.getElem?_toArray, List.getElem?_cons_zero, List.getElem?_cons_succ, Option.some.injEq] at ho hp
                  subst ho hp
                  have r77 : a.eval (.tmp 77) = .int .u32 ((E ^^^ 4294967295 : Nat) : Int) := hdep ⟨28, .data⟩ (by simp) rfl (77, .int .u32 ((E ^^^ 4294967295 : Nat) : Int)) rfl
                  rw [Vals.eval_tmp] at r77
                  have r80 : a.eval (.tmp 80) = .int .u32 (G : Int) := hdep ⟨31, .data⟩ (by simp) rfl (80, .int .u32 (G : Int)) rfl
                  rw [Vals.eval_tmp] at r80
                  have hx := XA.out.2.2.2.2.1
                  refine Vals.wpOp_run ho' rfl ?_
                  clear hdf hdep hfr ho'
                  go_simp
                  exact hK _ hI
                | 33, ho, hp =>
                  have ho' := ho
                  simp only [List.getElem?_toArray, List.getElem?_cons_zero, List.getElem?_cons_succ, Option.some.injEq] at ho hp
                  subst ho hp
                  have r73 : a.eval (.tmp 73) = .int .u32 ((E &&& F : Nat) : Int) := hdep ⟨24, .data⟩ (by simp) rfl (73, .int .u32 ((E &&& F : Nat) : Int)) rfl
                  rw [Vals.eval_tmp] at r73
                  have r81 : a.eval (.tmp 81) = .int .u32 (((E ^^^ 4294967295) &&& G : Nat) : Int) := hdep ⟨32, .data⟩ (by simp) rfl (81, .int .u32 (((E ^^^ 4294967295) &&& G : Nat) : Int)) rfl
                  rw [Vals.eval_tmp] at r81
                  have hx := XA.out.2.2.2.2.2
                  refine Vals.wpOp_run ho' rfl ?_
                  clear hdf hdep hfr ho'
                  go_simp
                  exact hK _ hI
                | 34, ho, hp =>
                  have ho' := ho
                  simp only [List.getElem?_toArray, List.getElem?_cons_zero, List.getElem?_cons_succ, Option.some.injEq] at ho hp
                  subst ho hp
                  have r66 : a.eval (.tmp 66) = .int .u32 (((H : Int) + ((big1 E : Nat) : Int)) % 4294967296) := hdep ⟨17, .data⟩ (by simp) rfl (66, .int .u32 (((H : Int) + ((big1 E : Nat) : Int)) % 4294967296)) rfl
                  rw [Vals.eval_tmp] at r66
                  have r82 : a.eval (.tmp 82) = .int .u32 ((cho E F G : Nat) : Int) := hdep ⟨33, .data⟩ (by simp) rfl (82, .int .u32 ((cho E F G : Nat) : Int)) rfl
                  rw [Vals.eval_tmp] at r82
                  have hx := wrap_add ((H : Int) + ((big1 E : Nat) : Int)) ((cho E F G : Nat) : Int)
                  refine Vals.wpOp_run ho' rfl ?_
                  clear hdf hdep hfr ho'
                  go_simp
                  exact hK _ hI
                | 35, ho, hp =>
                  have ho' := ho
                  simp only [List.getElem?_toArray, List.getElem?_cons_zero, List.getElem?_cons_succ, Option.some.injEq] at ho hp
                  subst ho hp
                  have r4 : a.eval (.tmp 4) = .slice (some ⟨w.heap.size + 2, 0, none⟩) 64 64 := hfr 4 (by decide)
                  rw [Vals.eval_tmp] at r4
                  refine Vals.wpOp_run ho' rfl ?_
                  clear hdf hdep hfr ho'
                  go_simp
                  exact hK _ hI
                | 36, ho, hp =>
                  have ho' := ho
                  simp only [List.getElem?_toArray, List.getElem?_cons_zero, List.getElem?_cons_succ, Option.some.injEq] at ho hp
                  subst ho hp
                  have r10 : a.eval (.tmp 10) = .int .i64 (t : Int) := hfr 10 (by decide)
                  rw [Vals.eval_tmp] at r10
                  refine Vals.wpOp_run ho' rfl ?_
                  clear hdf hdep hfr ho'
                  go_simp
                  exact hK _ hI
                | 37, ho, hp =>
                  have ho' := ho
                  simp only [List.getElem?_toArray, List.getElem?_cons_zero, List.getElem?_cons_succ, Option.some.injEq] at ho hp
                  subst ho hp
                  have r84 : a.eval (.tmp 84) = .slice (some ⟨w.heap.size + 2, 0, none⟩) 64 64 := hdep ⟨35, .data⟩ (by simp) rfl (84, .slice (some ⟨w.heap.size + 2, 0, none⟩) 64 64) rfl
                  rw [Vals.eval_tmp] at r84
                  have r85 : a.eval (.tmp 85) = .int .i64 (t : Int) := hdep ⟨36, .data⟩ (by simp) rfl (85, .int .i64 (t : Int)) rfl
                  rw [Vals.eval_tmp] at r85
                  have gt' := GT.out
                  refine Vals.wpOp_run ho' rfl ?_
                  clear hdf hdep hfr ho'
                  go_simp
                  exact hK _ hI
                | 38, ho, hp =>
                  have ho' := ho
                  simp only [List.getElem?_toArray, List.getElem?_cons_zero, List.getElem?_cons_succ, Option.some.injEq] at ho hp
                  subst ho hp
                  have r86 : a.eval (.tmp 86) = .pointer (some ⟨w.heap.size + 2, t, none⟩) := hdep ⟨37, .data⟩ (by simp) rfl (86, .pointer (some ⟨w.heap.size + 2, t, none⟩)) rfl
                  rw [Vals.eval_tmp] at r86
                  have cx := hI.2.1.cell GKT.out
                  refine Vals.wpOp_run ho' rfl ?_
                  clear hdf hdep hfr ho'
                  go_simp
                  exact hK _ hI
                | 39, ho, hp =>
                  have ho' := ho
                  simp only [List.getElem?_toArray, List.getElem?_cons_zero, List.getElem?_cons_succ, Option.some.injEq] at ho hp
                  subst ho hp
                  have r83 : a.eval (.tmp 83) = .int .u32 (((H : Int) + ((big1 E : Nat) : Int) + ((cho E F G : Nat) : Int)) % 4294967296) := hdep ⟨34, .data⟩ (by simp) rfl (83, .int .u32 (((H : Int) + ((big1 E : Nat) : Int) + ((cho E F G : Nat) : Int)) % 4294967296)) rfl
                  rw [Vals.eval_tmp] at r83
                  have r87 : a.eval (.tmp 87) = .int .u32 (kt : Int) := hdep ⟨38, .data⟩ (by simp) rfl (87, .int .u32 (kt : Int)) rfl
                  rw [Vals.eval_tmp] at r87
                  have hx := wrap_add ((H : Int) + ((big1 E : Nat) : Int) + ((cho E F G : Nat) : Int)) (kt : Int)
                  refine Vals.wpOp_run ho' rfl ?_
                  clear hdf hdep hfr ho'
                  go_simp
                  exact hK _ hI
                | 40, ho, hp =>
                  have ho' := ho
                  simp only [List.getElem?_toArray, List.getElem?_cons_zero, List.getElem?_cons_succ, Option.some.injEq] at ho hp
                  subst ho hp
                  have r7 : a.eval (.tmp 7) = .slice (some ⟨wb, 0, none⟩) 64 64 := hfr 7 (by decide)
                  rw [Vals.eval_tmp] at r7
                  refine Vals.wpOp_run ho' rfl ?_
                  clear hdf hdep hfr ho'
                  go_simp
                  exact hK _ hI
                | 41, ho, hp =>
                  have ho' := ho
                  simp only [List.getElem?_toArray, List.getElem?_cons_zero, List.getElem?_cons_succ, Option.some.injEq] at ho hp
                  subst ho hp
                  have r10 : a.eval (.tmp 10) = .int .i64 (t : Int) := hfr 10 (by decide)
                  rw [Vals.eval_tmp] at r10
                  refine Vals.wpOp_run ho' rfl ?_
                  clear hdf hdep hfr ho'
                  go_simp
                  exact hK _ hI
                | 42, ho, hp =>
                  have ho' := ho
                  simp only [List.getElem?_toArray, List.getElem?_cons_zero, List.getElem?_cons_succ, Option.some.injEq] at ho hp
                  subst ho hp
                  have r89 : a.eval (.tmp 89) = .slice (some ⟨wb, 0, none⟩) 64 64 := hdep ⟨40, .data⟩ (by simp) rfl (89, .slice (some ⟨wb, 0, none⟩) 64 64) rfl
                  rw [Vals.eval_tmp] at r89
                  have r90 : a.eval (.tmp 90) = .int .i64 (t : Int) := hdep ⟨41, .data⟩ (by simp) rfl (90, .int .i64 (t : Int)) rfl
                  rw [Vals.eval_tmp] at r90
                  have gt' := GT.out
                  refine Vals.wpOp_run ho' rfl ?_
                  clear hdf hdep hfr ho'
                  go_simp
                  exact hK _ hI
                | 43, ho, hp =>
                  have ho' := ho
                  simp only [List.getElem?_toArray, List.getElem?_cons_zero, List.getElem?_cons_succ, Option.some.injEq] at ho hp
                  subst ho hp
                  have r91 : a.eval (.tmp 91) = .pointer (some ⟨wb, t, none⟩) := hdep ⟨42, .data⟩ (by simp) rfl (91, .pointer (some ⟨wb, t, none⟩)) rfl
                  rw [Vals.eval_tmp] at r91
                  have cx := hI.2.2.1.cell GWT.out
                  refine Vals.wpOp_run ho' rfl ?_
                  clear hdf hdep hfr ho'
                  go_simp
                  exact hK _ hI
                | 44, ho, hp =>
                  have ho' := ho
                  simp only [List.getElem?_toArray, List.getElem?_cons_zero, List.getElem?_cons_succ, Option.some.injEq] at ho hp
                  subst ho hp
                  have r88 : a.eval (.tmp 88) = .int .u32 (((H : Int) + ((big1 E : Nat) : Int) + ((cho E F G : Nat) : Int) + (kt : Int)) % 4294967296) := hdep ⟨39, .data⟩ (by simp) rfl (88, .int .u32 (((H : Int) + ((big1 E : Nat) : Int) + ((cho E F G : Nat) : Int) + (kt : Int)) % 4294967296)) rfl
                  rw [Vals.eval_tmp] at r88
                  have r92 : a.eval (.tmp 92) = .int .u32 (wt : Int) := hdep ⟨43, .data⟩ (by simp) rfl (92, .int .u32 (wt : Int)) rfl
                  rw [Vals.eval_tmp] at r92
                  have hx := wrap_add ((H : Int) + ((big1 E : Nat) : Int) + ((cho E F G : Nat) : Int) + (kt : Int)) (wt : Int)
                  refine Vals.wpOp_run ho' rfl ?_
                  clear hdf hdep hfr ho'
                  go_simp
                  exact hK _ hI
                | 45, ho, hp =>
                  have ho' := ho
                  simp only [List.getElem?_toArray, List.getElem?_cons_zero, List.getElem?_cons_succ, Option.some.injEq] at ho hp
                  subst ho hp
                  have r93 : a.eval (.tmp 93) = .int .u32 (((H : Int) + ((big1 E : Nat) : Int) + ((cho E F G : Nat) : Int) + (kt : Int) + (wt : Int)) % 4294967296) := hdep ⟨44, .data⟩ (by simp) rfl (93, .int .u32 (((H : Int) + ((big1 E : Nat) : Int) + ((cho E F G : Nat) : Int) + (kt : Int) + (wt : Int)) % 4294967296)) rfl
                  rw [Vals.eval_tmp] at r93
                  refine Vals.wpOp_run ho' rfl ?_
                  clear hdf hdep hfr ho'
                  go_simp
                  exact hK _ hI
                | i + 46, ho, hp => simp at ho
              case finA =>
                intro w5 hI5
                have HI0 := Lib.hid hI5
                clear hI5
                simp only [Vals.puts, List.foldl_cons, List.foldl_nil]
                go_frame
                rw [cast_one]
                generalize hone : (H + big1 E + cho E F G + kt + wt) % 4294967296 = one at *
                have HONE := Lib.hid hone
                clear hone
                go_wp2
                refine wp_region_any (by kernel_rfl) ?_
                refine Vals.wpAny_vals [(94, .slice (some ⟨ab, 0, none⟩) 8 8), (95, .pointer (some ⟨ab, 0, none⟩)), (96, .int .u32 (A : Int)), (97, .int .u32 ((rotr A 2 : Nat) : Int)), (98, .slice (some ⟨ab, 0, none⟩) 8 8), (99, .pointer (some ⟨ab, 0, none⟩)), (100, .int .u32 (A : Int)), (101, .int .u32 ((rotr A 13 : Nat) : Int)), (102, .int .u32 ((rotr A 2 ^^^ rotr A 13 : Nat) : Int)), (103, .slice (some ⟨ab, 0, none⟩) 8 8), (104, .pointer (some ⟨ab, 0, none⟩)), (105, .int .u32 (A : Int)), (106, .int .u32 ((rotr A 22 : Nat) : Int)), (107, .int .u32 ((big0 A : Nat) : Int)), (108, .slice (some ⟨ab, 0, none⟩) 8 8), (109, .pointer (some ⟨ab, 0, none⟩)), (110, .int .u32 (A : Int)), (111, .slice (some ⟨ab, 0, none⟩) 8 8), (112, .pointer (some ⟨ab, 1, none⟩)), (113, .int .u32 (B : Int)), (114, .int .u32 ((A &&& B : Nat) : Int)), (115, .slice (some ⟨ab, 0, none⟩) 8 8), (116, .pointer (some ⟨ab, 0, none⟩)), (117, .int .u32 (A : Int)), (118, .slice (some ⟨ab, 0, none⟩) 8 8), (119, .pointer (some ⟨ab, 2, none⟩)), (120, .int .u32 (C : Int)), (121, .int .u32 ((A &&& C : Nat) : Int)), (122, .int .u32 (((A &&& B) ^^^ (A &&& C) : Nat) : Int)), (123, .slice (some ⟨ab, 0, none⟩) 8 8), (124, .pointer (some ⟨ab, 1, none⟩)), (125, .int .u32 (B : Int)), (126, .slice (some ⟨ab, 0, none⟩) 8 8), (127, .pointer (some ⟨ab, 2, none⟩)), (128, .int .u32 (C : Int)), (129, .int .u32 ((B &&& C : Nat) : Int)), (130, .int .u32 ((maj A B C : Nat) : Int)), (131, .int .u32 ((((big0 A : Nat) : Int) + ((maj A B C : Nat) : Int)) % 4294967296)), (12, .int .u32 ((((big0 A : Nat) : Int) + ((maj A B C : Nat) : Int)) % 4294967296))] [94, 95, 96, 97, 98, 99, 100, 101, 102, 103, 104, 105, 106, 107, 108, 109, 110, 111, 112, 113, 114, 115, 116, 117, 118, 119, 120, 121, 122, 123, 124, 125, 126, 127, 128, 129, 130, 131, 12] 191 (fun W => Blk32 W ab [A, B, C, D, E, F, G, H] ∧ Blk32 W (w.heap.size + 2) Ks ∧ Blk32 W wb WW ∧ Below ab w3 W) _ _ rfl (by kernel_rfl) rfl (by kernel_rfl) (by decide) ?stepB ?finB ⟨HI0.out.1, HI0.out.2.1, HI0.out.2.2.1, HI0.out.2.2.2.drew⟩
                case stepB =>
                  intro i o p ho hp a W hI hdf hdep hfr K hK
                  match i, ho, hp with
                  | 0, ho, hp =>
                    have ho' := ho
                    simp only [List.getElem?_toArray, List.getElem?_cons_zero, Option.some.injEq] at ho hp
                    subst ho hp
                    have r8 : a.eval (.tmp 8) = .slice (some ⟨ab, 0, none⟩) 8 8 := hfr 8 (by decide)
                    rw [Vals.eval_tmp] at r8
                    refine Vals.wpOp_run ho' rfl ?_
                    clear hdf hdep hfr ho'
                    go_simp
                    exact hK _ hI
                  | 1, ho, hp =>
                    have ho' := ho
                    simp only [List.getElem?_toArray, List.getElem?_cons_zero, List.getElem?_cons_succ, Option.some.injEq] at ho hp
                    subst ho hp
                    have r94 : a.eval (.tmp 94) = .slice (some ⟨ab, 0, none⟩) 8 8 := hdep ⟨0, .data⟩ (by simp) rfl (94, .slice (some ⟨ab, 0, none⟩) 8 8) rfl
                    rw [Vals.eval_tmp] at r94
                    refine Vals.wpOp_run ho' rfl ?_
                    clear hdf hdep hfr ho'
                    go_simp
                    exact hK _ hI
                  | 2, ho, hp =>
                    have ho' := ho
                    simp only [List.getElem?_toArray, List.getElem?_cons_zero, List.getElem?_cons_succ, Option.some.injEq] at ho hp
                    subst ho hp
                    have r95 : a.eval (.tmp 95) = .pointer (some ⟨ab, 0, none⟩) := hdep ⟨1, .data⟩ (by simp) rfl (95, .pointer (some ⟨ab, 0, none⟩)) rfl
                    rw [Vals.eval_tmp] at r95
                    have cx := hI.1.cell (i := 0) (x := A) rfl
                    refine Vals.wpOp_run ho' rfl ?_
                    clear hdf hdep hfr ho'
                    go_simp
                    exact hK _ hI
                  | 3, ho, hp =>
                    have ho' := ho
                    simp only [List.getElem?_toArray, List.getElem?_cons_zero, List.getElem?_cons_succ, Option.some.injEq] at ho hp
                    subst ho hp
                    have r96 : a.eval (.tmp 96) = .int .u32 (A : Int) := hdep ⟨2, .data⟩ (by simp) rfl (96, .int .u32 (A : Int)) rfl
                    rw [Vals.eval_tmp] at r96
                    refine Vals.wpOp_run ho' rfl ?_
                    clear hdf hdep hfr ho'
                    go_simp
                    refine (right_any _ A 2 lA (by omega) (by omega)).mono ?_
                    rintro e w' ⟨rfl, rfl⟩
                    exact hK _ hI
                  | 4, ho, hp =>
                    have ho' := ho
                    simp only [List.getElem?_toArray, List.getElem?_cons_zero, List.getElem?_cons_succ, Option.some.injEq] at ho hp
                    subst ho hp
                    have r8 : a.eval (.tmp 8) = .slice (some ⟨ab, 0, none⟩) 8 8 := hfr 8 (by decide)
                    rw [Vals.eval_tmp] at r8
                    refine Vals.wpOp_run ho' rfl ?_
                    clear hdf hdep hfr ho'
                    go_simp
                    exact hK _ hI
                  | 5, ho, hp =>
                    have ho' := ho
                    simp only [List.getElem?_toArray, List.getElem?_cons_zero, List.getElem?_cons_succ, Option.some.injEq] at ho hp
                    subst ho hp
                    have r98 : a.eval (.tmp 98) = .slice (some ⟨ab, 0, none⟩) 8 8 := hdep ⟨4, .data⟩ (by simp) rfl (98, .slice (some ⟨ab, 0, none⟩) 8 8) rfl
                    rw [Vals.eval_tmp] at r98
                    refine Vals.wpOp_run ho' rfl ?_
                    clear hdf hdep hfr ho'
                    go_simp
                    exact hK _ hI
                  | 6, ho, hp =>
                    have ho' := ho
                    simp only [List.getElem?_toArray, List.getElem?_cons_zero, List.getElem?_cons_succ, Option.some.injEq] at ho hp
                    subst ho hp
                    have r99 : a.eval (.tmp 99) = .pointer (some ⟨ab, 0, none⟩) := hdep ⟨5, .data⟩ (by simp) rfl (99, .pointer (some ⟨ab, 0, none⟩)) rfl
                    rw [Vals.eval_tmp] at r99
                    have cx := hI.1.cell (i := 0) (x := A) rfl
                    refine Vals.wpOp_run ho' rfl ?_
                    clear hdf hdep hfr ho'
                    go_simp
                    exact hK _ hI
                  | 7, ho, hp =>
                    have ho' := ho
                    simp only [List.getElem?_toArray, List.getElem?_cons_zero, List.getElem?_cons_succ, Option.some.injEq] at ho hp
                    subst ho hp
                    have r100 : a.eval (.tmp 100) = .int .u32 (A : Int) := hdep ⟨6, .data⟩ (by simp) rfl (100, .int .u32 (A : Int)) rfl
                    rw [Vals.eval_tmp] at r100
                    refine Vals.wpOp_run ho' rfl ?_
                    clear hdf hdep hfr ho'
                    go_simp
                    refine (right_any _ A 13 lA (by omega) (by omega)).mono ?_
                    rintro e w' ⟨rfl, rfl⟩
                    exact hK _ hI
                  | 8, ho, hp =>
                    have ho' := ho
                    simp only [List.getElem?_toArray, List.getElem?_cons_zero, List.getElem?_cons_succ, Option.some.injEq] at ho hp
                    subst ho hp
                    have r97 : a.eval (.tmp 97) = .int .u32 ((rotr A 2 : Nat) : Int) := hdep ⟨3, .data⟩ (by simp) rfl (97, .int .u32 ((rotr A 2 : Nat) : Int)) rfl
                    rw [Vals.eval_tmp] at r97
                    have r101 : a.eval (.tmp 101) = .int .u32 ((rotr A 13 : Nat) : Int) := hdep ⟨7, .data⟩ (by simp) rfl (101, .int .u32 ((rotr A 13 : Nat) : Int)) rfl
                    rw [Vals.eval_tmp] at r101
                    have hx := XB.out.1
                    refine Vals.wpOp_run ho' rfl ?_
                    clear hdf hdep hfr ho'
                    go_simp
                    exact hK _ hI
                  | 9, ho, hp =>
                    have ho' := ho
                    simp only [List.getElem?_toArray, List.getElem?_cons_zero, List.getElem?_cons_succ, Option.some.injEq] at ho hp
                    subst ho hp
                    have r8 : a.eval (.tmp 8) = .slice (some ⟨ab, 0, none⟩) 8 8 := hfr 8 (by decide)
                    rw [Vals.eval_tmp] at r8
                    refine Vals.wpOp_run ho' rfl ?_
                    clear hdf hdep hfr ho'
                    go_simp
                    exact hK _ hI
                  | 10, ho, hp =>
                    have ho' := ho
                    simp only [List.getElem?_toArray, List.getElem?_cons_zero, List.getElem?_cons_succ, Option.some.injEq] at ho hp
                    subst ho hp
                    have r103 : a.eval (.tmp 103) = .slice (some ⟨ab, 0, none⟩) 8 8 := hdep ⟨9, .data⟩ (by simp) rfl (103, .slice (some ⟨ab, 0, none⟩) 8 8) rfl
                    rw [Vals.eval_tmp] at r103
                    refine Vals.wpOp_run ho' rfl ?_
                    clear hdf hdep hfr ho'
                    go_simp
                    exact hK _ hI
                  | 11, ho, hp =>
                    have ho' := ho
                    simp only [List.getElem?_toArray, List.getElem?_cons_zero, List.getElem?_cons_succ, Option.some.injEq] at ho hp
                    subst ho hp
                    have r104 : a.eval (.tmp 104) = .pointer (some ⟨ab, 0, none⟩) := hdep ⟨10, .data⟩ (by simp) rfl (104, .pointer (some ⟨ab, 0, none⟩)) rfl
                    rw [Vals.eval_tmp] at r104
                    have cx := hI.1.cell (i := 0) (x := A) rfl
                    refine Vals.wpOp_run ho' rfl ?_
                    clear hdf hdep hfr ho'
                    go_simp
                    exact hK _ hI
                  | 12, ho, hp =>
                    have ho' := ho
                    simp only [List.getElem?_toArray, List.getElem?_cons_zero, List.getElem?_cons_succ, Option.some.injEq] at ho hp
                    subst ho hp
                    have r105 : a.eval (.tmp 105) = .int .u32 (A : Int) := hdep ⟨11, .data⟩ (by simp) rfl (105, .int .u32 (A : Int)) rfl
                    rw [Vals.eval_tmp] at r105
                    refine Vals.wpOp_run ho' rfl ?_
                    clear hdf hdep hfr ho'
                    go_simp
                    refine (right_any _ A 22 lA (by omega) (by omega)).mono ?_
                    rintro e w' ⟨rfl, rfl⟩
                    exact hK _ hI
                  | 13, ho, hp =>
                    have ho' := ho
                    simp only [List.getElem?_toArray, List.getElem?_cons_zero, List.getElem?_cons_succ, Option.some.injEq] at ho hp
                    subst ho hp
                    have r102 : a.eval (.tmp 102) = .int .u32 ((rotr A 2 ^^^ rotr A 13 : Nat) : Int) := hdep ⟨8, .data⟩ (by simp) rfl (102, .int .u32 ((rotr A 2 ^^^ rotr A 13 : Nat) : Int)) rfl
                    rw [Vals.eval_tmp] at r102
                    have r106 : a.eval (.tmp 106) = .int .u32 ((rotr A 22 : Nat) : Int) := hdep ⟨12, .data⟩ (by simp) rfl (106, .int .u32 ((rotr A 22 : Nat) : Int)) rfl
                    rw [Vals.eval_tmp] at r106
                    have hx := XB.out.2.1
                    refine Vals.wpOp_run ho' rfl ?_
                    clear hdf hdep hfr ho'
                    go_simp
                    exact hK _ hI
                  | 14, ho, hp =>
                    have ho' := ho
                    simp only [List.getElem?_toArray, List.getElem?_cons_zero, List.getElem?_cons_succ, Option.some.injEq] at ho hp
                    subst ho hp
                    have r8 : a.eval (.tmp 8) = .slice (some ⟨ab, 0, none⟩) 8 8 := hfr 8 (by decide)
                    rw [Vals.eval_tmp] at r8
                    refine Vals.wpOp_run ho' rfl ?_
                    clear hdf hdep hfr ho'
                    go_simp
                    exact hK _ hI
                  | 15, ho, hp =>
                    have ho' := ho
                    simp only [List.getElem?_toArray, List.getElem?_cons_zero, List.getElem?_cons_succ, Option.some.injEq] at ho hp
                    subst ho hp
                    have r108 : a.eval (.tmp 108) = .slice (some ⟨ab, 0, none⟩) 8 8 := hdep ⟨14, .data⟩ (by simp) rfl (108, .slice (some ⟨ab, 0, none⟩) 8 8) rfl
                    rw [Vals.eval_tmp] at r108
                    refine Vals.wpOp_run ho' rfl ?_
                    clear hdf hdep hfr ho'
                    go_simp
                    exact hK _ hI
                  | 16, ho, hp =>
                    have ho' := ho
                    simp only [List.getElem?_toArray, List.getElem?_cons_zero, List.getElem?_cons_succ, Option.some.injEq] at ho hp
                    subst ho hp
                    have r109 : a.eval (.tmp 109) = .pointer (some ⟨ab, 0, none⟩) := hdep ⟨15, .data⟩ (by simp) rfl (109, .pointer (some ⟨ab, 0, none⟩)) rfl
                    rw [Vals.eval_tmp] at r109
                    have cx := hI.1.cell (i := 0) (x := A) rfl
                    refine Vals.wpOp_run ho' rfl ?_
                    clear hdf hdep hfr ho'
                    go_simp
                    exact hK _ hI
                  | 17, ho, hp =>
                    have ho' := ho
                    simp only [List.getElem?_toArray, List.getElem?_cons_zero, List.getElem?_cons_succ, Option.some.injEq] at ho hp
                    subst ho hp
                    have r8 : a.eval (.tmp 8) = .slice (some ⟨ab, 0, none⟩) 8 8 := hfr 8 (by decide)
                    rw [Vals.eval_tmp] at r8
                    refine Vals.wpOp_run ho' rfl ?_
                    clear hdf hdep hfr ho'
                    go_simp
                    exact hK _ hI
                  | 18, ho, hp =>
                    have ho' := ho
                    simp only [List.getElem?_toArray, List.getElem?_cons_zero, List.getElem?_cons_succ, Option.some.injEq] at ho hp
                    subst ho hp
                    have r111 : a.eval (.tmp 111) = .slice (some ⟨ab, 0, none⟩) 8 8 := hdep ⟨17, .data⟩ (by simp) rfl (111, .slice (some ⟨ab, 0, none⟩) 8 8) rfl
                    rw [Vals.eval_tmp] at r111
                    refine Vals.wpOp_run ho' rfl ?_
                    clear hdf hdep hfr ho'
                    go_simp
                    exact hK _ hI
                  | 19, ho, hp =>
                    have ho' := ho
                    simp only [List.getElem?_toArray, List.getElem?_cons_zero, List.getElem?_cons_succ, Option.some.injEq] at ho hp
                    subst ho hp
                    have r112 : a.eval (.tmp 112) = .pointer (some ⟨ab, 1, none⟩) := hdep ⟨18, .data⟩ (by simp) rfl (112, .pointer (some ⟨ab, 1, none⟩)) rfl
                    rw [Vals.eval_tmp] at r112
                    have cx := hI.1.cell (i := 1) (x := B) rfl
                    refine Vals.wpOp_run ho' rfl ?_
                    clear hdf hdep hfr ho'
                    go_simp
                    exact hK _ hI
                  | 20, ho, hp =>
                    have ho' := ho
                    simp only [List.getElem?_toArray, List.getElem?_cons_zero, List.getElem?_cons_succ, Option.some.injEq] at ho hp
                    subst ho hp
                    have r110 : a.eval (.tmp 110) = .int .u32 (A : Int) := hdep ⟨16, .data⟩ (by simp) rfl (110, .int .u32 (A : Int)) rfl
                    rw [Vals.eval_tmp] at r110
                    have r113 : a.eval (.tmp 113) = .int .u32 (B : Int) := hdep ⟨19, .data⟩ (by simp) rfl (113, .int .u32 (B : Int)) rfl
                    rw [Vals.eval_tmp] at r113
                    have hx := XB.out.2.2.1
                    refine Vals.wpOp_run ho' rfl ?_
                    clear hdf hdep hfr ho'
                    go_simp
                    exact hK _ hI
                  | 21, ho, hp =>
                    have ho' := ho
                    simp only [List.getElem?_toArray, List.getElem?_cons_zero, List.getElem?_cons_succ, Option.some.injEq] at ho hp
                    subst ho hp
                    have r8 : a.eval (.tmp 8) = .slice (some ⟨ab, 0, none⟩) 8 8 := hfr 8 (by decide)
                    rw [Vals.eval_tmp] at r8
                    refine Vals.wpOp_run ho' rfl ?_
                    clear hdf hdep hfr ho'
                    go_simp
                    exact hK _ hI
                  | 22, ho, hp =>
                    have ho' := ho
                    simp only [List.getElem?_toArray, List.getElem?_cons_zero, List.getElem?_cons_succ, Option.some.injEq] at ho hp
                    subst ho hp
                    have r115 : a.eval (.tmp 115) = .slice (some ⟨ab, 0, none⟩) 8 8 := hdep ⟨21, .data⟩ (by simp) rfl (115, .slice (some ⟨ab, 0, none⟩) 8 8) rfl
                    rw [Vals.eval_tmp] at r115
                    refine Vals.wpOp_run ho' rfl ?_
                    clear hdf hdep hfr ho'
                    go_simp
                    exact hK _ hI
                  | 23, ho, hp =>
                    have ho' := ho
                    simp only [List.getElem?_toArray, List.getElem?_cons_zero, List.getElem?_cons_succ, Option.some.injEq] at ho hp
                    subst ho hp
                    have r116 : a.eval (.tmp 116) = .pointer (some ⟨ab, 0, none⟩) := hdep ⟨22, .data⟩ (by simp) rfl (116, .pointer (some ⟨ab, 0, none⟩)) rfl
                    rw [Vals.eval_tmp] at r116
                    have cx := hI.1.cell (i := 0) (x := A) rfl
                    refine Vals.wpOp_run ho' rfl ?_
                    clear hdf hdep hfr ho'
                    go_simp
                    exact hK _ hI
                  | 24, ho, hp =>
                    have ho' := ho
                    simp only [List.getElem?_toArray, List.getElem?_cons_zero, List.getElem?_cons_succ, Option.some.injEq] at ho hp
                    subst ho hp
                    have r8 : a.eval (.tmp 8) = .slice (some ⟨ab, 0, none⟩) 8 8 := hfr 8 (by decide)
                    rw [Vals.eval_tmp] at r8
                    refine Vals.wpOp_run ho' rfl ?_
                    clear hdf hdep hfr ho'
                    go_simp
                    exact hK _ hI
                  | 25, ho, hp =>
                    have ho' := ho
                    simp only [List.getElem?_toArray, List.getElem?_cons_zero, List.getElem?_cons_succ, Option.some.injEq] at ho hp
                    subst ho hp
                    have r118 : a.eval (.tmp 118) = .slice (some ⟨ab, 0, none⟩) 8 8 := hdep ⟨24, .data⟩ (by simp) rfl (118, .slice (some ⟨ab, 0, none⟩) 8 8) rfl
                    rw [Vals.eval_tmp] at r118
                    refine Vals.wpOp_run ho' rfl ?_
                    clear hdf hdep hfr ho'
                    go_simp
                    exact hK _ hI
                  | 26, ho, hp =>
                    have ho' := ho
                    simp only [List.getElem?_toArray, List.getElem?_cons_zero, List.getElem?_cons_succ, Option.some.injEq] at ho hp
                    subst ho hp
                    have r119 : a.eval (.tmp 119) = .pointer (some ⟨ab, 2, none⟩) := hdep ⟨25, .data⟩ (by simp) rfl (119, .pointer (some ⟨ab, 2, none⟩)) rfl
                    rw [Vals.eval_tmp] at r119
                    have cx := hI.1.cell (i := 2) (x := C) rfl
                    refine Vals.wpOp_run ho' rfl ?_
                    clear hdf hdep hfr ho'
                    go_simp
                    exact hK _ hI
                  | 27, ho, hp =>
                    have ho' := ho
                    simp only [List.getElem?_toArray, List.getElem?_cons_zero, List.getElem?_cons_succ, Option.some.injEq] at ho hp
                    subst ho hp
                    have r117 : a.eval (.tmp 117) = .int .u32 (A : Int) := hdep ⟨23, .data⟩ (by simp) rfl (117, .int .u32 (A : Int)) rfl
                    rw [Vals.eval_tmp] at r117
                    have r120 : a.eval (.tmp 120) = .int .u32 (C : Int) := hdep ⟨26, .data⟩ (by simp) rfl (120, .int .u32 (C : Int)) rfl
                    rw [Vals.eval_tmp] at r120
                    have hx := XB.out.2.2.2.1
                    refine Vals.wpOp_run ho' rfl ?_
                    clear hdf hdep hfr ho'
                    go_simp
                    exact hK _ hI
                  | 28, ho, hp =>
                    have ho' := ho
                    simp only [List.getElem?_toArray, List.getElem?_cons_zero, List.getElem?_cons_succ, Option.some.injEq] at ho hp
                    subst ho hp
                    have r114 : a.eval (.tmp 114) = .int .u32 ((A &&& B : Nat) : Int) := hdep ⟨20, .data⟩ (by simp) rfl (114, .int .u32 ((A &&& B : Nat) : Int)) rfl
                    rw [Vals.eval_tmp] at r114
                    have r121 : a.eval (.tmp 121) = .int .u32 ((A &&& C : Nat) : Int) := hdep ⟨27, .data⟩ (by simp) rfl (121, .int .u32 ((A &&& C : Nat) : Int)) rfl
                    rw [Vals.eval_tmp] at r121
                    have hx := XB.out.2.2.2.2.1
                    refine Vals.wpOp_run ho' rfl ?_
                    clear hdf hdep hfr ho'
                    go_simp
                    exact hK _ hI
                  | 29, ho, hp =>
                    have ho' := ho
                    simp only [List.getElem?_toArray, List.getElem?_cons_zero, List.getElem?_cons_succ, Option.some.injEq] at ho hp
                    subst ho hp
                    have r8 : a.eval (.tmp 8) = .slice (some ⟨ab, 0, none⟩) 8 8 := hfr 8 (by decide)
                    rw [Vals.eval_tmp] at r8
                    refine Vals.wpOp_run ho' rfl ?_
                    clear hdf hdep hfr ho'
                    go_simp
                    exact hK _ hI
                  | 30, ho, hp =>
                    have ho' := ho
                    simp only [List.getElem?_toArray, List.getElem?_cons_zero, List.getElem?_cons_succ, Option.some.injEq] at ho hp
                    subst ho hp
                    have r123 : a.eval (.tmp 123) = .slice (some ⟨ab, 0, none⟩) 8 8 := hdep ⟨29, .data⟩ (by simp) rfl (123, .slice (some ⟨ab, 0, none⟩) 8 8) rfl
                    rw [Vals.eval_tmp] at r123
                    refine Vals.wpOp_run ho' rfl ?_
                    clear hdf hdep hfr ho'
                    go_simp
                    exact hK _ hI
                  | 31, ho, hp =>
                    have ho' := ho
                    simp only [List.getElem?_toArray, List.getElem?_cons_zero, List.getElem?_cons_succ, Option.some.injEq] at ho hp
                    subst ho hp
                    have r124 : a.eval (.tmp 124) = .pointer (some ⟨ab, 1, none⟩) := hdep ⟨30, .data⟩ (by simp) rfl (124, .pointer (some ⟨ab, 1, none⟩)) rfl
                    rw [Vals.eval_tmp] at r124
                    have cx := hI.1.cell (i := 1) (x := B) rfl
                    refine Vals.wpOp_run ho' rfl ?_
                    clear hdf hdep hfr ho'
                    go_simp
                    exact hK _ hI
                  | 32, ho, hp =>
                    have ho' := ho
                    simp only [List.getElem?_toArray, List.getElem?_cons_zero, List.getElem?_cons_succ, Option.some.injEq] at ho hp
                    subst ho hp
                    have r8 : a.eval (.tmp 8) = .slice (some ⟨ab, 0, none⟩) 8 8 := hfr 8 (by decide)
                    rw [Vals.eval_tmp] at r8
                    refine Vals.wpOp_run ho' rfl ?_
                    clear hdf hdep hfr ho'
                    go_simp
                    exact hK _ hI
                  | 33, ho, hp =>
                    have ho' := ho
                    simp only [List.getElem?_toArray, List.getElem?_cons_zero, List.getElem?_cons_succ, Option.some.injEq] at ho hp
                    subst ho hp
                    have r126 : a.eval (.tmp 126) = .slice (some ⟨ab, 0, none⟩) 8 8 := hdep ⟨32, .data⟩ (by simp) rfl (126, .slice (some ⟨ab, 0, none⟩) 8 8) rfl
                    rw [Vals.eval_tmp] at r126
                    refine Vals.wpOp_run ho' rfl ?_
                    clear hdf hdep hfr ho'
                    go_simp
                    exact hK _ hI
                  | 34, ho, hp =>
                    have ho' := ho
                    simp only [List.getElem?_toArray, List.getElem?_cons_zero, List.getElem?_cons_succ, Option.some.injEq] at ho hp
                    subst ho hp
                    have r127 : a.eval (.tmp 127) = .pointer (some ⟨ab, 2, none⟩) := hdep ⟨33, .data⟩ (by simp) rfl (127, .pointer (some ⟨ab, 2, none⟩)) rfl
                    rw [Vals.eval_tmp] at r127
                    have cx := hI.1.cell (i := 2) (x := C) rfl
                    refine Vals.wpOp_run ho' rfl ?_
                    clear hdf hdep hfr ho'
                    go_simp
                    exact hK _ hI
                  | 35, ho, hp =>
                    have ho' := ho
                    simp only [List.getElem?_toArray, List.getElem?_cons_zero, List.getElem?_cons_succ, Option.some.injEq] at ho hp
                    subst ho hp
                    have r125 : a.eval (.tmp 125) = .int .u32 (B : Int) := hdep ⟨31, .data⟩ (by simp) rfl (125, .int .u32 (B : Int)) rfl
                    rw [Vals.eval_tmp] at r125
                    have r128 : a.eval (.tmp 128) = .int .u32 (C : Int) := hdep ⟨34, .data⟩ (by simp) rfl (128, .int .u32 (C : Int)) rfl
                    rw [Vals.eval_tmp] at r128
                    have hx := XB.out.2.2.2.2.2.1
                    refine Vals.wpOp_run ho' rfl ?_
                    clear hdf hdep hfr ho'
                    go_simp
                    exact hK _ hI
                  | 36, ho, hp =>
                    have ho' := ho
                    simp only [List.getElem?_toArray, List.getElem?_cons_zero, List.getElem?_cons_succ, Option.some.injEq] at ho hp
                    subst ho hp
                    have r122 : a.eval (.tmp 122) = .int .u32 (((A &&& B) ^^^ (A &&& C) : Nat) : Int) := hdep ⟨28, .data⟩ (by simp) rfl (122, .int .u32 (((A &&& B) ^^^ (A &&& C) : Nat) : Int)) rfl
                    rw [Vals.eval_tmp] at r122
                    have r129 : a.eval (.tmp 129) = .int .u32 ((B &&& C : Nat) : Int) := hdep ⟨35, .data⟩ (by simp) rfl (129, .int .u32 ((B &&& C : Nat) : Int)) rfl
                    rw [Vals.eval_tmp] at r129
                    have hx := XB.out.2.2.2.2.2.2
                    refine Vals.wpOp_run ho' rfl ?_
                    clear hdf hdep hfr ho'
                    go_simp
                    exact hK _ hI
                  | 37, ho, hp =>
                    have ho' := ho
                    simp only [List.getElem?_toArray, List.getElem?_cons_zero, List.getElem?_cons_succ, Option.some.injEq] at ho hp
                    subst ho hp
                    have r107 : a.eval (.tmp 107) = .int .u32 ((big0 A : Nat) : Int) := hdep ⟨13, .data⟩ (by simp) rfl (107, .int .u32 ((big0 A : Nat) : Int)) rfl
                    rw [Vals.eval_tmp] at r107
                    have r130 : a.eval (.tmp 130) = .int .u32 ((maj A B C : Nat) : Int) := hdep ⟨36, .data⟩ (by simp) rfl (130, .int .u32 ((maj A B C : Nat) : Int)) rfl
                    rw [Vals.eval_tmp] at r130
                    refine Vals.wpOp_run ho' rfl ?_
                    clear hdf hdep hfr ho'
                    go_simp
                    exact hK _ hI
                  | 38, ho, hp =>
                    have ho' := ho
                    simp only [List.getElem?_toArray, List.getElem?_cons_zero, List.getElem?_cons_succ, Option.some.injEq] at ho hp
                    subst ho hp
                    have r131 : a.eval (.tmp 131) = .int .u32 ((((big0 A : Nat) : Int) + ((maj A B C : Nat) : Int)) % 4294967296) := hdep ⟨37, .data⟩ (by simp) rfl (131, .int .u32 ((((big0 A : Nat) : Int) + ((maj A B C : Nat) : Int)) % 4294967296)) rfl
                    rw [Vals.eval_tmp] at r131
                    refine Vals.wpOp_run ho' rfl ?_
                    clear hdf hdep hfr ho'
                    go_simp
                    exact hK _ hI
                  | i + 39, ho, hp => simp at ho
                case finB =>
                  intro w6 hI6
                  have HI0 := Lib.hid hI6
                  clear hI6
                  simp only [Vals.puts, List.foldl_cons, List.foldl_nil]
                  go_frame
                  rw [cast_two]
                  generalize htwo : (big0 A + maj A B C) % 4294967296 = two at *
                  have HTWO := Lib.hid htwo
                  clear htwo
                  go_wp2
                  go_loopw [13] (fun j wj => ∃ k : Nat, k ≤ 7 ∧ j = .int .i64 k ∧ Blk32 wj ab (shl [A, B, C, D, E, F, G, H] k) ∧ Below ab w3 wj) (fun j _ => (intOf j).toNat)
                  case atStart => exact ⟨7, by omega, rfl, HI0.out.1, HI0.out.2.2.2⟩
                  case round =>
                    obtain ⟨k, hk, rfl, ha, hb⟩ := hrel
                    by_cases hk0 : 0 < k
                    · obtain ⟨x, gx, ⟨y, gy⟩, hset⟩ := shl_step (v := [A, B, C, D, E, F, G, H]) rfl hk0 hk
                      have cx := ha.cell gx
                      have cy := ha.cell gy
                      have fa := ha.free k
                      have hs2 := ha.set k x
                      rw [hset] at hs2
                      have g1 : (0 : Int) < k := by omega
                      have g2 : (k : Int) < 8 := by omega
                      have g3 : (0 : Int) ≤ (k : Int) - 1 := by omega
                      have g4 : (k : Int) - 1 < 8 := by omega
                      have g5 : IntKind.i64.wrap ((k : Int) - 1) = (k : Int) - 1 := by rw [IntKind.wrap_i64]; omega
                      have g6 : ((k : Int) - 1).toNat = k - 1 := by omega
                      have HS2 := Lib.hid hs2
                      have HBI := Lib.hid hb
                      clear ha hb gx gy hset hs2
                      go_wp2
                      go_roundw
                      case rel => exact ⟨k - 1, by omega, by go_num, HS2.out, HBI.out.setCell (Nat.le_refl _) _⟩
                      case measure => simp [intOf]; omega
                    · obtain rfl : k = 0 := by omega
                      have c4 := ha.cell (i := 4) (x := D) rfl
                      have c0 := ha.cell (i := 0) (x := A) rfl
                      have f4 := ha.free 4
                      have s4 := ha.set 4 ((D + one) % 4294967296)
                      rw [← cast_two] at s4
                      have f0 := s4.free 0
                      have s0 := s4.set 0 ((one + two) % 4294967296)
                      rw [← cast_two one two] at s0
                      have hend : ((shl [A, B, C, D, E, F, G, H] 0).set 4 ((D + one) % 4294967296)).set 0 ((one + two) % 4294967296) = rounds WW hs (t + 1) := by
                        rw [HST.out, ← HONE.out, ← HTWO.out]
                        simp [shl, stepL]
                      rw [hend] at s0
                      have HA := Lib.hid s0
                      have HBI := Lib.hid hb
                      clear ha hb s4 s0 hend
                      go_wp2
                      go_roundw
                      case rel => exact ⟨t + 1, by omega, by go_num, HA.out, (HBI.out.setCell (Nat.le_refl _) _).setCell (Nat.le_refl _) _⟩
                      case measure => simp [intOf]; omega
            · obtain rfl : t = 64 := by omega
              rw [show ((64 : Nat) : Int) = 64 from rfl]
              have h8 := HW8.out.1
              have h8v := eight_rounds (ws := WW) h8 64
              have hnx := HNX.out
              generalize rounds WW hs 64 = vs at *
              have hbase : Base w (some ⟨gp, 0, none⟩) c' (padded zs) hs wr := (HBS.out.keep (by rw [HWB.out]; exact HB3.out)).keep (by rw [HAB.out]; exact hb)
              have HE8 := Lib.hid (And.intro h8 h8v)
              have HBASE2 := Lib.hid (And.intro hbase (And.intro ha hb))
              have HNX2 := Lib.hid hnx
              clear ha hb h8 h8v hbase hnx
              go_wp2
              go_loopw [14] (fun j wj => ∃ k : Nat, k ≤ 8 ∧ j = .int .i64 k ∧ Base w (some ⟨gp, 0, none⟩) c' (padded zs) (mix hs vs k) wj ∧ Blk32 wj ab vs) (fun j _ => 8 - (intOf j).toNat)
              case atStart => exact ⟨0, by omega, rfl, by rw [mix_zero HE8.out.1]; exact HBASE2.out.1, HBASE2.out.2.1⟩
              case round =>
                obtain ⟨k, hk, rfl, hm, ha⟩ := hrel
                by_cases hk8 : k < 8
                · obtain ⟨x, y, gx, gy, hset⟩ := mix_step HE8.out.1 HE8.out.2 hk8
                  have cx := hm.h.cell gx
                  have cy := ha.cell gy
                  have fx := hm.h.free k
                  have hs2 := hm.set k ((x + y) % 4294967296)
                  have ha2 := ha.off (p := ⟨w.heap.size + 1, k, none⟩) (.int .u32 (((x + y) % 4294967296 : Nat) : Int)) (show ab ≠ w.heap.size + 1 by omega)
                  rw [hset, ← cast_two] at hs2
                  rw [← cast_two] at ha2
                  have gk : (k : Int) < 8 := by omega
                  have HS2 := Lib.hid (And.intro hs2 ha2)
                  clear hm ha gx gy hset hs2 ha2
                  go_wp2
                  go_still_tail 11, (by kernel_rfl)
                  change wpList _ _ _ _ _ wr.drew
                  go_wp2
                  go_roundw
                  case rel => exact ⟨k + 1, by omega, by go_num, HS2.out.1.drew, HS2.out.2⟩
                  case measure => simp [intOf]; omega
                · obtain rfl : k = 8 := by omega
                  rw [mix_all HE8.out.1 HE8.out.2] at hm
                  have HM := Lib.hid hm
                  clear hm ha
                  go_wp2
                  go_roundw
                  case rel => exact ⟨n + 1, by omega, by go_num, by rw [HNX2.out]; exact HM.out⟩
                  case measure => simp [intOf]; omega
    · obtain rfl : n = N := by omega
      have h8 := eight_absorb eight_H0 (padded zs) n
      have hsha : sha zs = digest (absorb H0s (padded zs) n) := by unfold sha; rw [HP.out, Nat.mul_div_cancel_left _ (by omega)]
      generalize absorb H0s (padded zs) n = hs at *
      have HE8 := Lib.hid (And.intro h8 hsha)
      have HBS := Lib.hid hbs
      clear h8 hsha hbs
      go_wp2
      have infoO : (Tryd.prog.info? 46).map (·.size) = some ((digest hs).map (Value.int .u8)).length := by rw [List.length_map, digest_len]; kernel_rfl
      generalize hob : wr.heap.size = ob at *
      have HOB := Lib.hid hob
      go_loopw [16] (fun j wj => ∃ k : Nat, k ≤ 32 ∧ j = .int .i64 k ∧ Below ob wr wj ∧ Arr wj ob 46 (outs hs k)) (fun j _ => 32 - (intOf j).toNat)
      case atStart => exact ⟨0, by omega, rfl, (Below.refl _ _).alloc (by rw [HOB.out]; exact Nat.le_refl _) _, by rw [← HOB.out, outs_zero]; exact arr_new _ _ _⟩
      case round =>
        obtain ⟨k, hk, rfl, hb, ha⟩ := hrel
        have hm := HBS.out.keep (by rw [HOB.out]; exact hb)
        by_cases hk32 : k < 32
        · have gk : (k : Int) < 32 := by omega
          obtain ⟨x, lx, gx⟩ := HE8.out.1.at (show k / 4 < 8 by omega)
          have cx := hm.h.cell gx
          have q0 : (k : Int) / 4 < 8 := by omega
          have q1 : (0 : Int) ≤ (k : Int) / 4 := by omega
          have q2 : ((k : Int) / 4).toNat = k / 4 := by omega
          have q3 : IntKind.i64.wrap ((k : Int) / 4) = (k : Int) / 4 := by rw [IntKind.wrap_i64]; omega
          have ca := ha.cell (i := k) (v := .int .u8 0) (outs_self hs hk32)
          have fa := ha.free k
          have ha2 := ha.set k (.int .u8 ((x / 2 ^ (24 - 8 * (k % 4)) % 256 : Nat) : Int))
          rw [outs_step hs gx hk32, ← cast_byte] at ha2
          have hb2 := hb.setCell (p := ⟨ob, k, none⟩) (Nat.le_refl _) (.int .u8 ((x : Int) / 2 ^ (24 - 8 * (k % 4)) % 256))
          have HM := Lib.hid (And.intro hb2 ha2)
          clear hb hm ha gx hb2 ha2
          go_wp2
          go_roundw
          case rel => exact ⟨k + 1, by omega, by go_num, HM.out.1, HM.out.2⟩
          case measure => simp [intOf]; omega
        · obtain rfl : k = 32 := by omega
          rw [show ((32 : Nat) : Int) = 32 from rfl]
          rw [outs_all] at ha
          have HM := Lib.hid (And.intro hm ha)
          clear hb hm ha
          go_upto_region 33 with fail
          have hone := all_oneCell_toArray (cs := (digest hs).map (Value.int .u8)) (by intro v hv; obtain ⟨z, _, rfl⟩ := List.mem_map.1 hv; rfl)
          refine wp_region_lit ?_
          refine wpList_load_mid rfl 46 (.tmp 15) rfl ob 0 rfl ((digest hs).map (Value.int .u8)) (.array 32 5) HM.out.2.range (by kernel_rfl) rfl infoO ?_
          refine wpList_store_mid rfl 46 (.tmp 2) (.tmp 190) rfl w.heap.size 0 ((digest hs).map (Value.int .u8)).toArray rfl (Vals.eval_put_self _ _ _ (show 190 < 191 by decide)) (HM.out.1.there (by simp [digest_len])) (by simpa using infoO) hone ?_
          have hend := World.rangeAt_setCells_same wr w.heap.size 0 ((digest hs).map (Value.int .u8)) (HM.out.1.there (by simp [digest_len]))
          have hbl := below_setCells w.heap.size w.heap.size (Nat.le_refl _) ((digest hs).map (Value.int .u8)) 0 w wr HM.out.1.b
          have HEND := Lib.hid (And.intro hend hbl)
          clear hend hbl
          rw [show ((digest hs).map (Value.int .u8)).toArray.toList = (digest hs).map (Value.int .u8) from rfl]
          generalize wr.setCells w.heap.size 0 ((digest hs).map (Value.int .u8)) = wend at *
          go_wp2
          refine bodyPost_ret (v := .agg ((digest hs).map (Value.int .u8)).toArray) ?_ rfl ⟨by rw [HE8.out.2], HEND.out.2⟩
          rw [results_one rfl]
          show Result.andThen ((asAddr (.pointer (some ⟨w.heap.size, 0, none⟩))).run Tryd.prog wend) _ = _
          simp only [asAddr, Sem.run_pure, Result.andThen_ok]
          exact run_loadVar_mid wend w.heap.size 0 46 ((digest hs).map (Value.int .u8)) (.array 32 5) HEND.out.1 (by kernel_rfl) rfl infoO
end Go.Proofs.YtcmaclaiholpfaaDoor
