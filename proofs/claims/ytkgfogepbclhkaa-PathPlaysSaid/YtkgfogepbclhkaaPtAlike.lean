/-
  The statements' 'alike': both paths tell the same. Written by genptwk.py.
-/
import Derived.Test.YtkgfogepbclhkaaPtDo
import Derived.Test.YtkgfogepbclhkaaPtMeant
namespace Go.Proofs.Ytkgfogepbclhkaa
open Go.RowKit
set_option linter.unusedVariables false

theorem palike_any (w : World) (g gr gw h hr hw : Nat) (p : PS) (c d : Nat) (h1 : PP w g gr gw p c) (h2 : RP w h hr hw p d) :
    Calls Try.prog 12 #[.pointer (some ⟨g, 0, none⟩), .pointer (some ⟨h, 0, none⟩)] w fun e w' => e = .returned (.bool true) ∧ ∃ m, w' = w.drewN m := by
  have a1 := pactive_any w g gr gw p c h1
  have a2 := fun m => rpactive_any (w.drewN m) h hr hw p d (h2.drawn m)
  have b1 := fun m m2 => (show PP (w.drewN (m + m2)) g gr gw p c from h1.drawn (m + m2))
  have b2 := fun m m2 => (show RP (w.drewN (m + m2)) h hr hw p d from h2.drawn (m + m2))
  have B := Lib.hid (And.intro b1 b2)
  clear h1 h2 b1 b2
  go_enter Try.func12, Try.ntmps12
  go_wp2_with fail
  refine a1.mono ?_
  rintro e w' ⟨rfl, m, rfl⟩
  go_wp2_with fail
  refine (a2 m).mono ?_
  rintro e w' ⟨rfl, m2, rfl⟩
  clear a1 a2
  go_wp2_with fail
  refine (pfailures_any _ g gr gw p c (B.out.1 m m2)).mono ?_
  rintro e w' ⟨rfl, rfl⟩
  go_wp2_with fail
  refine (rpfailures_any _ h hr hw p d (B.out.2 m m2)).mono ?_
  rintro e w' ⟨rfl, rfl⟩
  go_wp2_with fail
  refine (prto_any _ g gr gw p c (B.out.1 m m2)).mono ?_
  rintro e w' ⟨rfl, rfl⟩
  go_wp2_with fail
  refine (rprto_any _ h hr hw p d (B.out.2 m m2)).mono ?_
  rintro e w' ⟨rfl, rfl⟩
  go_wp2_with fail
  refine (psize_any _ g gr gw p c (B.out.1 m m2)).mono ?_
  rintro e w' ⟨rfl, rfl⟩
  go_wp2_with fail
  refine (rpsize_any _ h hr hw p d (B.out.2 m m2)).mono ?_
  rintro e w' ⟨rfl, rfl⟩
  go_wp2_with fail
  refine (pwhen_any _ g gr gw p c (B.out.1 m m2)).mono ?_
  rintro e w' ⟨rfl, rfl⟩
  go_wp2_with fail
  refine (rpwhen_any _ h hr hw p d (B.out.2 m m2)).mono ?_
  rintro e w' ⟨rfl, rfl⟩
  go_wp2
  go_ret
  exact ⟨rfl, m + m2, rfl⟩

theorem palike_nil (w : World) :
    Calls Try.prog 12 #[.pointer none, .pointer none] w fun e w' => e = .returned (.bool true) ∧ ∃ m, w' = w.drewN m := by
  go_enter Try.func12, Try.ntmps12
  go_wp2_with fail
  refine (pactive_nil w).mono ?_
  rintro e w' ⟨rfl, m, rfl⟩
  go_wp2_with fail
  refine (rpactive_nil (w.drewN m)).mono ?_
  rintro e w' ⟨rfl, m2, rfl⟩
  go_wp2_with fail
  refine (pfailures_nil _).mono ?_
  rintro e w' ⟨rfl, rfl⟩
  go_wp2_with fail
  refine (rpfailures_nil _).mono ?_
  rintro e w' ⟨rfl, rfl⟩
  go_wp2_with fail
  refine (prto_nil _).mono ?_
  rintro e w' ⟨rfl, rfl⟩
  go_wp2_with fail
  refine (rprto_nil _).mono ?_
  rintro e w' ⟨rfl, rfl⟩
  go_wp2_with fail
  refine (psize_nil _).mono ?_
  rintro e w' ⟨rfl, rfl⟩
  go_wp2_with fail
  refine (rpsize_nil _).mono ?_
  rintro e w' ⟨rfl, rfl⟩
  go_wp2_with fail
  refine (pwhen_nil _).mono ?_
  rintro e w' ⟨rfl, rfl⟩
  go_wp2_with fail
  refine (rpwhen_nil _).mono ?_
  rintro e w' ⟨rfl, rfl⟩
  go_wp2
  go_ret
  exact ⟨rfl, m + m2, rfl⟩
end Go.Proofs.Ytkgfogepbclhkaa
