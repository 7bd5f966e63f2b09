/-
  The contract of Apart: rows that lie in blocks of their own are told to be apart; behind it all reads as before.
-/
import Derived.Test.YtlihcckgnnnekaaApt
import Derived.WalkLawsBesides
namespace Go.Proofs.Ytlihcckgnnnekaa
open Go.RowKit
set_option linter.unusedVariables false

theorem whole_any (r : ARow) (w : World) :
    Calls Try.prog 57 #[r.val] w fun e w' => e = .returned (.slice r.addr r.size r.size) ∧ w = w' := by
  match r with
  | none =>
    show Calls _ _ #[.slice none 0 0] _ _
    go_enter Try.func57, Try.ntmps57
    go_wp2
    go_ret
    exact ⟨rfl, rfl⟩
  | some (g, n, zs) =>
    show Calls _ _ #[.slice (some ⟨g, 0, none⟩) n zs.length] _ fun e w' => e = .returned (.slice (some ⟨g, 0, none⟩) zs.length zs.length) ∧ w = w'
    generalize zs.length = L
    go_enter Try.func57, Try.ntmps57
    go_wp2
    go_ret
    exact ⟨rfl, rfl⟩

theorem Try.infoS : (Try.prog.info? 9).map (fun i => (i.zero, i.size, i.bytes)) = some (some (.string ByteArray.empty), 1, 16) := by kernel_rfl

set_option maxHeartbeats 1600000 in
set_option maxRecDepth 100000 in
theorem apart_yes (rb ro rc : Nat) (rs : List ARow) (w : World) (hR : rs.length ≤ 1073741824) (hrb : rb < w.heap.size)
    (hcell : ∀ (k : Nat) (r : ARow), rs[k]? = some r → w.cell? ⟨rb, ro + k, none⟩ = some r.val) (hok : ∀ (k : Nat) (r : ARow), rs[k]? = some r → r.ok w)
    (hne : ∀ (k : Nat) (r : ARow), rs[k]? = some r → r.blk ≠ some rb) (hdis : ∀ (j k : Nat) (r s : ARow), rs[j]? = some r → rs[k]? = some s → j ≠ k → r.blk = none ∨ r.blk ≠ s.blk) :
    Calls Try.prog 22 #[.slice (some ⟨rb, ro, none⟩) rs.length rc] w fun e w' => e = .returned (.bool true) ∧ Below w.heap.size w w' := by
  have HCell := Lib.hid hcell
  have HOk := Lib.hid hok
  have HNe := Lib.hid hne
  have HDis := Lib.hid hdis
  clear hcell hok hne hdis
  obtain ⟨i0, hi0, hz0, hz1, hz2⟩ := info_parts Try.infoS
  generalize hRR : rs.length = R at *
  have HR := Lib.hid hRR
  clear hRR
  go_enter Try.func22, Try.ntmps22
  go_wp2
  go_loopw [3, 4] (fun f i wr => ∃ k : Nat, k ≤ R ∧ f = .bool true ∧ i = .int .i64 k ∧ Below w.heap.size w wr) (fun _ i _ => R - (intOf i).toNat)
  case atStart => exact ⟨0, Nat.zero_le _, rfl, rfl, Below.refl _ _⟩
  case round =>
    obtain ⟨k, hk, rfl, rfl, hb⟩ := hrel
    have HB := Lib.hid hb
    clear hb
    by_cases hlt : k < R
    · obtain ⟨r, hr⟩ : ∃ r, rs[k]? = some r := ⟨rs[k]'(by rw [HR.out]; exact hlt), by simp [HR.out, hlt]⟩
      have HRk := Lib.hid hr
      clear hr
      go_wp2
      obtain ⟨w0, HW⟩ : ∃ x, x = wr := ⟨_, rfl⟩
      subst HW
      go_loopw [5, 6] (fun v i wr => ∃ j : Nat, j ≤ R ∧ i = .int .i64 j ∧ wr.ownsRow w.heap.size 9 1 v j ((rs.take j).map fun r => Value.string r.str) ∧ Below w.heap.size w wr) (fun _ i _ => R - (intOf i).toNat)
      case atStart => exact ⟨0, Nat.zero_le _, rfl, by simpa using World.ownsRow_nil _ _ _ _, HB.out⟩
      case round =>
        obtain ⟨j, hj, rfl, hown, hb⟩ := hrel
        by_cases hjl : j < R
        · obtain ⟨s, hs⟩ : ∃ r, rs[j]? = some r := ⟨rs[j]'(by rw [HR.out]; exact hjl), by simp [HR.out, hjl]⟩
          have hc : wr.cell? ⟨rb, ro + j, none⟩ = some s.val := (hb.cell (p := ⟨rb, ro + j, none⟩) hrb).trans (HCell.out j s hs)
          have hso : s.ok wr := ARow.ok_of (HOk.out j s hs) (fun g _ hg => hb.block g hg)
          have hcv := ARow.conv Try.prog 24 5 9 Try.underlying24 Try.underlying5 Try.underlying9 wr s hso
          have HS := Lib.hid hs
          have HO := Lib.hid (hown.alloc (.cells #[.string s.str] 9))
          have HBj := Lib.hid hb
          clear hown hb hs hso
          go_wp2_with (at_builtin; refine wpList_append_own _ rfl (.tmp 23) (.tmp 29) 93 rfl w.heap.size 9 i0 (.string ByteArray.empty) 1 16 Try.underlying93 hi0 hz0 hz1 hz2 rfl (by decide) _ _ _ rfl HO.out ⟨wr.heap.size, 0, none⟩ 1 1 [.string s.str] rfl rfl (cell_one_new _ _ _) ?c2 ?c3 ?c4 ?c5 ?_)
          case c2 => intro u hu; simp at hu; subst hu; rfl
          case c3 => unfold maxLen; omega
          case c4 => omega
          case c5 => have := HBj.out.size; simp; omega
          intro v' w1 hown' hgrow _
          have hx : List.take j (List.map (fun r : ARow => Value.string r.str) rs) ++ [Value.string s.str] = (rs.take (j + 1)).map fun r => Value.string r.str := by
            have hl : j < rs.length := by rw [HR.out]; exact hjl
            rw [List.take_succ_eq_append_getElem hl]
            have := HS.out
            rw [List.getElem?_eq_getElem hl] at this
            simp only [Option.some.injEq] at this
            simp [this]
          rw [hx] at hown'
          have HO2 := Lib.hid hown'
          have HB2 := Lib.hid (((HBj.out.alloc HBj.out.size (.cells #[.string s.str] 9)).grown hgrow (by have := HBj.out.size; simp; omega) (fun g hg => (HO.out.lt g hg).1)))
          clear hown' hgrow hx hc hcv
          go_wp2
          go_roundw
          case rel => exact ⟨j + 1, by omega, by go_num, HO2.out, HB2.out⟩
          case measure => simp [intOf]; omega
        · obtain rfl : j = R := by omega
          have hc : wr.cell? ⟨rb, ro + k, none⟩ = some r.val := (hb.cell (p := ⟨rb, ro + k, none⟩) hrb).trans (HCell.out k r HRk.out)
          have HO := Lib.hid hown
          have HB1 := Lib.hid hb
          have HRo := Lib.hid (show r.ok wr from ARow.ok_of (HOk.out k r HRk.out) (fun g _ hg => hb.block g hg))
          have hszl := ARow.size_le HRo.out
          clear hown hb
          obtain ⟨gv, cv, hgv, hvv⟩ : ∃ gv cv, w.heap.size ≤ gv ∧ u5 = .slice (some ⟨gv, 0, none⟩) j cv := by
            rcases HO.out.2 with ⟨_, h⟩ | ⟨g, cap, cur, hv, hg, _⟩
            · omega
            · exact ⟨g, cap, hg, hv⟩
          subst hvv
          go_wp2_with (go_at_call 57; refine (whole_any r _).mono ?_; rintro e w' ⟨rfl, rfl⟩)
          obtain ⟨wB, HW⟩ : ∃ x, x = wr := ⟨_, rfl⟩
          subst HW
          go_loopw [8] (fun i wr => ∃ n : Nat, n ≤ r.size ∧ i = .int .i64 n ∧ Turned wB wr r (flipTo r.all n)) (fun i _ => r.size - (intOf i).toNat)
          case atStart => exact ⟨0, Nat.zero_le _, rfl, Turned.start HRo.out⟩
          case round =>
            obtain ⟨n, hn, rfl, ht⟩ := hrel
            by_cases hnl : n < r.size
            · match r, hnl, HRo, hszl, ht with
              | some (g, m, zs), hnl, HRo, hszl, ht =>
                have hnz : n < zs.length := hnl
                have hsz2 : zs.length ≤ 9223372036854775807 := hszl
                have hblk := ht.blk g m zs rfl
                have hc1 : wr.cell? ⟨g, n, none⟩ = some (.int .u8 (zs[n]?.getD 0)) := by
                  rw [hblk.cell (by rw [flipTo_length]; exact hnz)]
                  rw [show flipTo (ARow.all (some (g, m, zs))) n = flipTo zs n from rfl, flipTo_at zs n hnz]
                have hf1 := hblk.free n
                have HT := Lib.hid ht
                clear ht hblk
                simp only [ARow.addr, ARow.size]
                go_wp2
                refine ⟨⟨n + 1, by omega, by go_num, ?_⟩, by simp [intOf]; omega⟩
                have h := HT.out.set n (flp (zs[n]?.getD 0))
                rw [show flipTo (ARow.all (some (g, m, zs))) n = flipTo zs n from rfl, flipTo_set zs n hnz] at h
                have e1 : zs[n]?.getD 0 = zs[n] := by simp [hnz]
                rw [e1] at h
                exact h
            · obtain rfl : n = r.size := by omega
              rw [ARow.turned_all] at ht
              have HT := Lib.hid ht
              clear ht
              go_wp2
              obtain ⟨w2, HW⟩ : ∃ x, x = wr := ⟨_, rfl⟩
              subst HW
              go_loopw [3, 9] (fun f i wr => ∃ l : Nat, l ≤ j ∧ f = .bool true ∧ i = .int .i64 l ∧ Turned wB wr r (backTo r.all 0)) (fun _ i _ => j - (intOf i).toNat)
              case atStart => exact ⟨0, Nat.zero_le _, rfl, rfl, HT.out⟩
              case round =>
                obtain ⟨l, hl, rfl, rfl, ht⟩ := hrel
                by_cases hll : l < j
                · obtain ⟨s, hs⟩ : ∃ r, rs[l]? = some r := ⟨rs[l]'(by rw [HR.out]; exact hll), by simp [HR.out, hll]⟩
                  by_cases hlk : l = k
                  · subst hlk
                    have hq : ((l : Int) == (l : Int)) = true := by simp
                    have HTl := Lib.hid ht
                    clear ht
                    go_wp2
                    go_quiet (fail)
                    go_wp2
                    exact ⟨⟨l + 1, by omega, rfl, by go_num, HTl.out.drewN _⟩, by simp [intOf]; omega⟩
                  · have hq : ((l : Int) == (k : Int)) = false := by simp; omega
                    have hgb : ∀ g, r.blk = some g → g < w.heap.size := by
                      intro g hg
                      have h0 := HOk.out k r HRk.out
                      match r, h0, hg with
                      | some (g', _, _), h0, hg => cases hg; exact h0.1.lt
                    have hc1 : wr.cell? ⟨rb, ro + l, none⟩ = some s.val := by
                      have h1 := ht.block rb (by have := HB1.out.size; omega) (HNe.out k r HRk.out)
                      exact (World.cell?_of_block (w := wB) h1).trans ((HB1.out.cell (p := ⟨rb, ro + l, none⟩) hrb).trans (HCell.out l s hs))
                    have hso : s.ok wr := by
                      have h1 : s.ok wB := ARow.ok_of (HOk.out l s hs) (fun g _ hg => HB1.out.block g hg)
                      refine ARow.ok_of h1 (fun g hg hgl => ht.block g hgl (fun e => ?_))
                      rcases HDis.out k l r s HRk.out hs (fun e => hlk e.symm) with h | h
                      · rw [h] at e; cases e
                      · exact h (e.trans hg.symm)
                    have hcv : ∀ q, (convert 24 9 s.val).run Try.prog (wr.drewN q) = .ok (.string s.str) (wr.drewN q) := fun q =>
                      ARow.conv Try.prog 24 5 9 Try.underlying24 Try.underlying5 Try.underlying9 (wr.drewN q) s (ARow.ok_of hso (fun _ _ _ => rfl))
                    have hcv0 := hcv 0
                    have hcv1 := hcv 1
                    have hcw : wr.cell? ⟨gv, l, none⟩ = some (.string s.str) := by
                      have h1 := HO.out.kept ht.grown (by
                        by_cases hb : r.blk = none
                        · rw [hb]; right; simp [Value.ownBlock]
                        · right
                          intro e
                          have := hgb gv (e.symm.trans rfl)
                          omega)
                      rw [h1.cellAt l (by omega)]
                      simp [hll, hs]
                    have HTl := Lib.hid ht
                    have HSl := Lib.hid hs
                    clear ht hs hso
                    go_wp2
                    go_quiet (fail)
                    go_wp2
                    exact ⟨⟨l + 1, by omega, rfl, by go_num, HTl.out.drewN _⟩, by simp [intOf]; omega⟩
                · have HT2 := Lib.hid ht
                  clear ht
                  go_wp2
                  obtain ⟨w3, HW⟩ : ∃ x, x = wr := ⟨_, rfl⟩
                  subst HW
                  go_loopw [10] (fun i wr => ∃ n : Nat, n ≤ r.size ∧ i = .int .i64 n ∧ Turned wB wr r (backTo r.all n)) (fun i _ => r.size - (intOf i).toNat)
                  case atStart => exact ⟨0, Nat.zero_le _, rfl, HT2.out⟩
                  case round =>
                    obtain ⟨n, hn, rfl, ht⟩ := hrel
                    by_cases hnl : n < r.size
                    · match r, hnl, HRo, hszl, ht with
                      | some (g, m, zs), hnl, HRo, hszl, ht =>
                        have hnz : n < zs.length := hnl
                        have hsz2 : zs.length ≤ 9223372036854775807 := hszl
                        have hblk := ht.blk g m zs rfl
                        have hc1 : wr.cell? ⟨g, n, none⟩ = some (.int .u8 (flp (zs[n]?.getD 0))) := by
                          rw [hblk.cell (by rw [show backTo (ARow.all (some (g, m, zs))) n = backTo zs n from rfl, backTo_length]; exact hnz)]
                          rw [show backTo (ARow.all (some (g, m, zs))) n = backTo zs n from rfl, backTo_at zs n hnz]
                        have hf1 := hblk.free n
                        have HT := Lib.hid ht
                        have HX := Lib.hid (show flp (flp (zs[n]?.getD 0)) = zs[n]?.getD 0 from by
                          have hb := HRo.out.2.1.getD n
                          exact flp_flp _ hb.1 hb.2)
                        clear ht hblk
                        simp only [ARow.addr, ARow.size]
                        go_wp2
                        refine ⟨⟨n + 1, by omega, by go_num, ?_⟩, by simp [intOf]; omega⟩
                        have h := HT.out.set n (flp (flp (zs[n]?.getD 0)))
                        rw [show backTo (ARow.all (some (g, m, zs))) n = backTo zs n from rfl, HX.out, backTo_set zs n hnz, ← HX.out] at h
                        have e1 : zs[n]?.getD 0 = zs[n] := by simp [hnz]
                        rw [e1] at h
                        exact h
                    · obtain rfl : n = r.size := by omega
                      have HE := Lib.hid (ht.below HB1.out HRo.out)
                      clear ht
                      go_wp2
                      exact ⟨⟨k + 1, by omega, rfl, by go_num, HE.out⟩, by simp [intOf]; omega⟩
    · go_wp2
      go_ret
      exact ⟨rfl, HB.out⟩
theorem ARow.ne_symm {r s : ARow} (h : r.blk = none ∨ r.blk ≠ s.blk) : s.blk = none ∨ s.blk ≠ r.blk := by
  rcases h with h | h
  · by_cases e : s.blk = none
    · exact .inl e
    · exact .inr (fun e2 => e (e2.trans h))
  · exact .inr (fun e => h e.symm)

/-- Three rows in a slice that was built of them just now. -/
theorem apart_3 (r0 r1 r2 : ARow) (T : TypeId) (W : World) (o0 : r0.ok W) (o1 : r1.ok W) (o2 : r2.ok W) (d01 : r0.blk = none ∨ r0.blk ≠ r1.blk) (d02 : r0.blk = none ∨ r0.blk ≠ r2.blk) (d12 : r1.blk = none ∨ r1.blk ≠ r2.blk) :
    Calls Try.prog 22 #[.slice (some ⟨W.heap.size, 0, none⟩) 3 3] (W.alloc (.cells #[r0.val, r1.val, r2.val] T)) fun e w' => e = .returned (.bool true) ∧ Below W.heap.size W w' := by
  have lt : ∀ r : ARow, r.ok W → r.blk ≠ some W.heap.size := by
    intro r h e
    match r, h, e with
    | some (g, _, _), h, e =>
      have eg : g = W.heap.size := by simpa [ARow.blk] using e
      have := h.1.lt
      omega
  have keep : ∀ r : ARow, r.ok W → r.ok (W.alloc (.cells #[r0.val, r1.val, r2.val] T)) := fun r h => ARow.ok_of h (fun g _ hg => Below.heap_alloc _ _ _ hg)
  refine (apart_yes W.heap.size 0 3 [r0, r1, r2] _ (by simp) (by simp) ?_ ?_ ?_ ?_).mono fun e w' ⟨h1, h2⟩ => ⟨h1, ((Below.refl _ _).alloc (Nat.le_refl _) _).trans (h2.mono (by simp))⟩
  · intro k r h
    match k, h with
    | 0, h => simp at h; subst h; simp
    | 1, h => simp at h; subst h; simp
    | 2, h => simp at h; subst h; simp
  · intro k r h
    match k, h with
    | 0, h => simp at h; subst h; exact keep _ o0
    | 1, h => simp at h; subst h; exact keep _ o1
    | 2, h => simp at h; subst h; exact keep _ o2
  · intro k r h
    match k, h with
    | 0, h => simp at h; subst h; exact lt _ o0
    | 1, h => simp at h; subst h; exact lt _ o1
    | 2, h => simp at h; subst h; exact lt _ o2
  · intro j k r s hr hs hjk
    match j, k, hr, hs with
    | 0, 0, _, _ => exact absurd rfl hjk
    | 1, 1, _, _ => exact absurd rfl hjk
    | 2, 2, _, _ => exact absurd rfl hjk
    | 0, 1, hr, hs => simp at hr hs; subst hr hs; exact d01
    | 0, 2, hr, hs => simp at hr hs; subst hr hs; exact d02
    | 1, 2, hr, hs => simp at hr hs; subst hr hs; exact d12
    | 1, 0, hr, hs => simp at hr hs; subst hr hs; exact ARow.ne_symm d01
    | 2, 0, hr, hs => simp at hr hs; subst hr hs; exact ARow.ne_symm d02
    | 2, 1, hr, hs => simp at hr hs; subst hr hs; exact ARow.ne_symm d12
/-- Four rows in a slice that was built of them just now. -/
theorem apart_4 (r0 r1 r2 r3 : ARow) (T : TypeId) (W : World) (o0 : r0.ok W) (o1 : r1.ok W) (o2 : r2.ok W) (o3 : r3.ok W) (d01 : r0.blk = none ∨ r0.blk ≠ r1.blk) (d02 : r0.blk = none ∨ r0.blk ≠ r2.blk) (d03 : r0.blk = none ∨ r0.blk ≠ r3.blk) (d12 : r1.blk = none ∨ r1.blk ≠ r2.blk) (d13 : r1.blk = none ∨ r1.blk ≠ r3.blk) (d23 : r2.blk = none ∨ r2.blk ≠ r3.blk) :
    Calls Try.prog 22 #[.slice (some ⟨W.heap.size, 0, none⟩) 4 4] (W.alloc (.cells #[r0.val, r1.val, r2.val, r3.val] T)) fun e w' => e = .returned (.bool true) ∧ Below W.heap.size W w' := by
  have lt : ∀ r : ARow, r.ok W → r.blk ≠ some W.heap.size := by
    intro r h e
    match r, h, e with
    | some (g, _, _), h, e =>
      have eg : g = W.heap.size := by simpa [ARow.blk] using e
      have := h.1.lt
      omega
  have keep : ∀ r : ARow, r.ok W → r.ok (W.alloc (.cells #[r0.val, r1.val, r2.val, r3.val] T)) := fun r h => ARow.ok_of h (fun g _ hg => Below.heap_alloc _ _ _ hg)
  refine (apart_yes W.heap.size 0 4 [r0, r1, r2, r3] _ (by simp) (by simp) ?_ ?_ ?_ ?_).mono fun e w' ⟨h1, h2⟩ => ⟨h1, ((Below.refl _ _).alloc (Nat.le_refl _) _).trans (h2.mono (by simp))⟩
  · intro k r h
    match k, h with
    | 0, h => simp at h; subst h; simp
    | 1, h => simp at h; subst h; simp
    | 2, h => simp at h; subst h; simp
    | 3, h => simp at h; subst h; simp
  · intro k r h
    match k, h with
    | 0, h => simp at h; subst h; exact keep _ o0
    | 1, h => simp at h; subst h; exact keep _ o1
    | 2, h => simp at h; subst h; exact keep _ o2
    | 3, h => simp at h; subst h; exact keep _ o3
  · intro k r h
    match k, h with
    | 0, h => simp at h; subst h; exact lt _ o0
    | 1, h => simp at h; subst h; exact lt _ o1
    | 2, h => simp at h; subst h; exact lt _ o2
    | 3, h => simp at h; subst h; exact lt _ o3
  · intro j k r s hr hs hjk
    match j, k, hr, hs with
    | 0, 0, _, _ => exact absurd rfl hjk
    | 1, 1, _, _ => exact absurd rfl hjk
    | 2, 2, _, _ => exact absurd rfl hjk
    | 3, 3, _, _ => exact absurd rfl hjk
    | 0, 1, hr, hs => simp at hr hs; subst hr hs; exact d01
    | 0, 2, hr, hs => simp at hr hs; subst hr hs; exact d02
    | 0, 3, hr, hs => simp at hr hs; subst hr hs; exact d03
    | 1, 2, hr, hs => simp at hr hs; subst hr hs; exact d12
    | 1, 3, hr, hs => simp at hr hs; subst hr hs; exact d13
    | 2, 3, hr, hs => simp at hr hs; subst hr hs; exact d23
    | 1, 0, hr, hs => simp at hr hs; subst hr hs; exact ARow.ne_symm d01
    | 2, 0, hr, hs => simp at hr hs; subst hr hs; exact ARow.ne_symm d02
    | 3, 0, hr, hs => simp at hr hs; subst hr hs; exact ARow.ne_symm d03
    | 2, 1, hr, hs => simp at hr hs; subst hr hs; exact ARow.ne_symm d12
    | 3, 1, hr, hs => simp at hr hs; subst hr hs; exact ARow.ne_symm d13
    | 3, 2, hr, hs => simp at hr hs; subst hr hs; exact ARow.ne_symm d23
/-- Two rows in a slice that was built of them just now. -/
theorem apart_2 (r0 r1 : ARow) (T : TypeId) (W : World) (o0 : r0.ok W) (o1 : r1.ok W) (d01 : r0.blk = none ∨ r0.blk ≠ r1.blk) :
    Calls Try.prog 22 #[.slice (some ⟨W.heap.size, 0, none⟩) 2 2] (W.alloc (.cells #[r0.val, r1.val] T)) fun e w' => e = .returned (.bool true) ∧ Below W.heap.size W w' := by
  have lt : ∀ r : ARow, r.ok W → r.blk ≠ some W.heap.size := by
    intro r h e
    match r, h, e with
    | some (g, _, _), h, e =>
      have eg : g = W.heap.size := by simpa [ARow.blk] using e
      have := h.1.lt
      omega
  have keep : ∀ r : ARow, r.ok W → r.ok (W.alloc (.cells #[r0.val, r1.val] T)) := fun r h => ARow.ok_of h (fun g _ hg => Below.heap_alloc _ _ _ hg)
  refine (apart_yes W.heap.size 0 2 [r0, r1] _ (by simp) (by simp) ?_ ?_ ?_ ?_).mono fun e w' ⟨h1, h2⟩ => ⟨h1, ((Below.refl _ _).alloc (Nat.le_refl _) _).trans (h2.mono (by simp))⟩
  · intro k r h
    match k, h with
    | 0, h => simp at h; subst h; simp
    | 1, h => simp at h; subst h; simp
  · intro k r h
    match k, h with
    | 0, h => simp at h; subst h; exact keep _ o0
    | 1, h => simp at h; subst h; exact keep _ o1
  · intro k r h
    match k, h with
    | 0, h => simp at h; subst h; exact lt _ o0
    | 1, h => simp at h; subst h; exact lt _ o1
  · intro j k r s hr hs hjk
    match j, k, hr, hs with
    | 0, 0, _, _ => exact absurd rfl hjk
    | 1, 1, _, _ => exact absurd rfl hjk
    | 0, 1, hr, hs => simp at hr hs; subst hr hs; exact d01
    | 1, 0, hr, hs => simp at hr hs; subst hr hs; exact ARow.ne_symm d01
end Go.Proofs.Ytlihcckgnnnekaa
