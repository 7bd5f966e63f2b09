/-
  Package spans: Last: the map is ranged over, in whatever order.
-/
import Derived.Test.YtjdkbcecnlfhjaaSpMove
import Derived.Maps.RangeWalk
namespace Go.Proofs.Ytjdkbcecnlfhjaa
open Go.RowKit
set_option linter.unusedVariables false

theorem quiet_left {P : Program} {f : FuncId} {args : Array Value} {w : World} {n : Nat} {v : Value}
    (h : Calls P f args (w.drewN n) fun e w' => e = .returned v ∧ w.drewN n = w') : Calls P f args (w.drewN n) fun e w'' => e = .returned v ∧ ∃ m, w'' = w.drewN m :=
  h.mono fun _ _ ⟨he, hm⟩ => ⟨he, n, hm.symm⟩

theorem plainElem_bool_inv {H : Type} {P : Program} {e : TypeId} (he : P.underlying e = some .bool) {v : Value} {z : DataW H × List MemPlace} (h : plainElem P e v = some z) : ∃ c, v = .bool c ∧ z = (.lit (.bool c), []) := by
  unfold plainElem at h
  rw [he] at h
  cases v <;> simp at h
  exact ⟨_, rfl, h.symm⟩

/-- THE STEP over a set: keys of an integer kind, each element 'true'. -/
theorem wpList_next_set {H : Type} {P : Program} (w : World) {ops : Array Oper} {rest : List Oper} {o : Oper} {a : Act} {Q : Exit → Act → World → Prop} (hg : o.guard = none) (it : Operand) (hop : o.op = Op.next it false) (k e : TypeId) (qk : IntKind) (K : Maps.Keyed P k) (hk : P.underlying k = some (.int qk)) (he : P.underlying e = some .bool)
    (b r n : Nat) (D : DataW H) (left : Lit → Bool) (cn : Nat) (hit : a.eval it = .pointer (some ⟨r, 0, none⟩)) (h : w.ranges P k (plainElem P e) b r n D left cn)
    (hall : ∀ x : Int, (Lit.int qk x).wf = true → Maps.has D (.int qk x) = true → D.atKey (.int qk x) (.lit (.bool false)) = .lit (.bool true))
    (hDone : cn = 0 → (∀ kl, left kl = false) → wpList P ops Q rest (a.put o.dst (.tuple #[.bool false])) w)
    (hMore : ∀ (x : Int) (w' : World) (cn' : Nat), (Lit.int qk x).wf = true → Maps.has D (.int qk x) = true → w'.ranges P k (plainElem P e) b r n D (fun z => left z && !z.sameKey (.int qk x)) cn' → cn' < cn →
      w.grownBy w' (some r) → (Instr.entry (.pointer (some ⟨r, 0, none⟩))).run P w' = .ok (.tuple #[.int qk x, .bool true]) w' → wpList P ops Q rest (a.put o.dst (.tuple #[.bool true, .int qk x, .bool true])) w') :
    wpList P ops Q (o :: rest) a w :=
  wpList_next_ranges w hg it hop k K (plainElem P e) (Value.int qk) Value.bool (fun key kl hkey => by obtain ⟨x, rfl, _⟩ := Maps.keyOf_int_inv hk hkey; exact ⟨x, rfl⟩) (fun v y hv => by obtain ⟨c, rfl, _⟩ := plainElem_bool_inv he hv; exact ⟨c, rfl⟩)
    b r n D left cn hit h hDone (fun x c kl y w' cn' hkey hlk hv hat hrg hlt hgr hsz hen => by
      obtain ⟨x', ex, rfl, hwx⟩ := Maps.keyOf_int_inv hk hkey
      cases ex
      obtain ⟨c', ec, rfl⟩ := plainElem_bool_inv he hv
      cases ec
      have hh := Maps.has_true_of_atKey hat
      have := hall x hwx hh
      rw [hat] at this
      cases this
      exact hMore x w' cn' hwx hh hrg hlt hgr hen)

theorem last_nil (w : World) :
    Calls Try.prog 26 #[.pointer none] w fun e w' => e = .returned (.int .u32 0) ∧ w = w' := by
  go_enter Try.func26, Try.ntmps26
  go_wp2
  go_ret
  exact ⟨rfl, rfl⟩

theorem ranges_drewN {H : Type} {P : Program} {k : TypeId} {R : Value → Option (DataW H × List MemPlace)} {w : World} {b r n : Nat} {D : DataW H} {left : Lit → Bool} {cn : Nat} (h : w.ranges P k R b r n D left cn) (m : Nat) : (w.drewN m).ranges P k R b r n D left cn := h
theorem wf32_in {x : Int} (h : (Lit.int .u32 x).wf = true) : 0 ≤ x ∧ x ≤ 4294967295 := by
  simp [Lit.wf, IntKind.min, IntKind.max, IntKind.signed, IntKind.bits] at h; omega
theorem htrue {D : DataW Unit} {base : Int} {f : Nat → Bool} (hat : ∀ x : Int, 0 ≤ x → x < 4294967296 → Maps.has D (.int .u32 x) = f (dist base x) ∧ D.atKey (.int .u32 x) (.lit (.bool false)) = .lit (.bool (f (dist base x))))
    {x : Int} (hwx : (Lit.int .u32 x).wf = true) (hh : Maps.has D (.int .u32 x) = true) : D.atKey (.int .u32 x) (.lit (.bool false)) = .lit (.bool true) := by
  have hx := wf32_in hwx
  have := hat x hx.1 (by omega)
  rw [this.1] at hh
  rw [this.2, hh]
theorem hx_of {base x : Int} {d : Nat} (h : Hid (dist base x = d)) (hx : 0 ≤ x ∧ x ≤ 4294967295) (hb : 0 ≤ base ∧ base ≤ 4294967295) : (base + (d : Int)) % 4294967296 = x := by
  have := h.out
  unfold dist at this
  omega

set_option maxHeartbeats 800000 in
theorem last_any (w : World) (sb bm : Nat) (base : Int) (f : Nat → Bool) (h : IsSet w sb bm base f) (m : Nat) (hm : Lst f m) :
    Calls Try.prog 26 #[.pointer (some ⟨sb, 0, none⟩)] w fun e w' => e = .returned (.int .u32 ((base + m) % 4294967296)) ∧ Turn [] w w' := by
  have c0 := h.c0
  have c1 := h.c1
  obtain ⟨D, hown, hsz, hat⟩ := h.mem
  have hsup := Lib.hid h.sup
  have hin := h.in
  have hlt := h.lt
  have HS := Lib.hid h
  have HL := Lib.hid hm
  have HAT := Lib.hid hat
  have e0 : (base + ((0 : Nat) : Int)) % 4294967296 = base := by omega
  have HE0 := Lib.hid e0
  clear h hm hat hsz e0
  go_enter Try.func26, Try.ntmps26
  go_wp2_with (at_range; refine wpList_range_own _ rfl _ 52 rfl 22 4 key32 Try.underlying52 _ bm 4096 D rfl hown ?_; intro w0 hrg0 hg0 hs0)
  go_frame
  go_loopw [3] (fun v wr => ∃ (left : Lit → Bool) (cn m : Nat), wr.ranges Try.prog 22 (plainElem Try.prog 4) bm w.heap.size 4096 D left cn ∧ (m = 0 ∨ f m = true) ∧ m ≤ 4096 ∧ v = .int .u32 ((base + m) % 4294967296) ∧
      (∀ x : Int, 0 ≤ x → x < 4294967296 → Maps.has D (.int .u32 x) = true → left (.int .u32 x) = false → dist base x ≤ m) ∧ Turn [] w wr)
    (fun _ wr => wr.rangeLeft bm w.heap.size)
  case atStart =>
    refine ⟨_, _, 0, hrg0, .inl rfl, by omega, by rw [HE0.out], fun x _ _ h1 h2 => ?_, (Turn.refl _ _).grown hg0 (by simp)⟩
    rw [h1] at h2; cases h2
  case round =>
    obtain ⟨left, cn, k, hrg, hk1, hk2, rfl, hall, hturn⟩ := hrel
    have HK := Lib.hid hk1
    have HALL := Lib.hid hall
    have HTURN := Lib.hid hturn
    clear hs0 hk1 hall hturn hrg0 hg0
    go_wp2_with (at_next; refine wpList_next_set _ rfl _ rfl 22 4 .u32 key32 Try.underlying22 Try.underlying4 bm w.heap.size 4096 D left cn rfl hrg (fun x hwx hh => htrue HAT.out hwx hh) ?_ ?_)
    · intro _ hl0
      have HL0 := Lib.hid hl0
      clear hl0
      go_wp2
      go_ret
      have hL : Lst f k := ⟨HK.out, fun d hd => by
        have hr := hsup.out d hd
        have hd1 := dist_add base d (by omega)
        have := HALL.out ((base + d) % 4294967296) (by omega) (by omega) (by rw [(HAT.out _ (by omega) (by omega)).1, hd1]; exact hd) (HL0.out _)
        rw [hd1] at this
        exact this⟩
      rw [hL.unique hsup.out HL.out]
      exact ⟨rfl, HTURN.out⟩
    · intro x w2 cn2 hwx hhx hrg2 hlt2 hg2 hen
      have hx := wf32_in hwx
      have hfx : f (dist base x) = true := by
        rw [← (HAT.out x hx.1 (by omega)).1]; exact hhx
      have hT2 := HTURN.out.grown hg2 (by intro j hj; cases hj; exact .inr (Nat.le_refl _))
      have d0 : w2.cell? ⟨sb, 0, none⟩ = some (.int .u32 base) := (hT2.cell (p := ⟨sb, 0, none⟩) hlt (by simp)).trans c0
      have hdl : dist base ((base + k) % 4294967296) = k := dist_add base k (by omega)
      have hdx := dist_lt base x
      have ha1 : ∀ W, Calls Try.prog 34 #[.int .u32 base, .int .u32 x] W _ := fun W => ahead_any base x W hin hx
      have ha2 : ∀ W, Calls Try.prog 34 #[.int .u32 base, .int .u32 ((base + k) % 4294967296)] W _ := fun W => ahead_any base ((base + k) % 4294967296) W hin (by omega)
      rw [hdl] at ha2
      have HFX := Lib.hid hfx
      have HRG2 := Lib.hid hrg2
      have HT2 := Lib.hid hT2
      have HRG := Lib.hid hrg
      have HA1 := Lib.hid ha1
      have HA2 := Lib.hid ha2
      have HLT2 := Lib.hid hlt2
      clear hhx hrg2 hg2 hwx hfx hT2 hdl hrg ha1 ha2 hlt2
      have hnew : ∀ y : Int, 0 ≤ y → y < 4294967296 → Maps.has D (.int .u32 y) = true → (left (.int .u32 y) && !(Lit.int .u32 y).sameKey (.int .u32 x)) = false → dist base y ≤ k ∨ dist base y = dist base x := by
        intro y h1 h2 h3 h4
        cases h5 : left (.int .u32 y)
        · exact .inl (HALL.out y h1 h2 h3 h5)
        · right
          rw [h5] at h4
          simp at h4
          have := WideAt.sameKey_eq h4
          cases this; rfl
      have HNEW := Lib.hid hnew
      clear hnew
      generalize hdd : dist base x = dx at *
      have HDD := Lib.hid hdd
      clear hdd
      by_cases hgt : k < dx
      · go_wp2
        go_quiet ((go_at_call 34; first | exact quiet_left (HA1.out _) | exact quiet_left (HA2.out _)))
        go_wp2
        go_roundw
        case rel =>
          have hd := hsup.out _ HFX.out
          exact ⟨_, cn2, dx, ranges_drewN HRG2.out _, .inr HFX.out, by omega, by rw [hx_of HDD hx hin], fun y h1 h2 h3 h4 => by rcases HNEW.out y h1 h2 h3 h4 with e | e <;> omega, HT2.out.drewN _⟩
        case measure => rw [show World.rangeLeft (w2.drewN _) bm w.heap.size = cn2 from HRG2.out.left_eq, HRG.out.left_eq]; exact HLT2.out
      · go_wp2
        go_quiet ((go_at_call 34; first | exact quiet_left (HA1.out _) | exact quiet_left (HA2.out _)))
        go_wp2
        go_roundw
        case rel => exact ⟨_, cn2, k, ranges_drewN HRG2.out _, HK.out, by omega, rfl, fun y h1 h2 h3 h4 => by rcases HNEW.out y h1 h2 h3 h4 with e | e <;> omega, HT2.out.drewN _⟩
        case measure => rw [show World.rangeLeft (w2.drewN _) bm w.heap.size = cn2 from HRG2.out.left_eq, HRG.out.left_eq]; exact HLT2.out
end Go.Proofs.Ytjdkbcecnlfhjaa
