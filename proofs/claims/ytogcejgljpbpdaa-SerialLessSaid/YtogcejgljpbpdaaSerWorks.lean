/-
  The anchor of the serial statements: works() is true, and turns nothing that was there.
-/
import Derived.Test.YtogcejgljpbpdaaSer1
namespace Go.Proofs.Ytogcejgljpbpdaa
open Go.RowKit
set_option linter.unusedVariables false

theorem works_any (w : World) : Calls Try.prog 16 #[] w fun e w' => e = .returned (.bool true) ∧ w = w' := by
  have c1 := fun W => less_32 4294967295 0 W (by omega) (by omega)
  have c2 := fun W => less_32 0 2147483648 W (by omega) (by omega)
  have c3 := fun W => ahead_16 65530 4 W (by omega) (by omega)
  have c4 := fun W => max_T 4294967295 0 W (by omega) (by omega)
  have c5 := fun W => in_S 0 65535 1 W (by omega) (by omega) (by omega)
  rw [show les 4294967296 2147483648 4294967295 0 = true from by decide] at c1
  rw [show les 4294967296 2147483648 0 2147483648 = false from by decide] at c2
  rw [show ahd 65536 65530 4 = 10 from by decide] at c3
  rw [show mx 4294967296 2147483648 4294967295 0 = 0 from by decide] at c4
  rw [show inn 65536 0 65535 1 = true from by decide] at c5
  go_enter Try.func16, Try.ntmps16
  go_wp2_with fail
  refine (c1 _).mono ?_
  rintro e w' ⟨rfl, rfl⟩
  go_wp2_with fail
  refine (c2 _).mono ?_
  rintro e w' ⟨rfl, rfl⟩
  go_wp2_with fail
  refine (c3 _).mono ?_
  rintro e w' ⟨rfl, rfl⟩
  go_wp2_with fail
  refine (c4 _).mono ?_
  rintro e w' ⟨rfl, rfl⟩
  go_wp2_with fail
  refine (c5 _).mono ?_
  rintro e w' ⟨rfl, rfl⟩
  go_wp2_with fail
  go_ret
  exact ⟨rfl, rfl⟩
end Go.Proofs.Ytogcejgljpbpdaa
