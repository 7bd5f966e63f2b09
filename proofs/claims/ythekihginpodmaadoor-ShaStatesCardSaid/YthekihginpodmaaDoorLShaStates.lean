/-
  The walk of ShaStates, from the contracts.
-/
import Derived.Test.YthekihginpodmaaDoorShaHeld
import Derived.Test.YthekihginpodmaaDoorShaLong
namespace Go.Proofs.YthekihginpodmaaDoor
open Go.RowKit
set_option linter.unusedVariables false


set_option maxHeartbeats 3200000 in
set_option maxRecDepth 100000 in
theorem shaStates_of {St : World → Addr → List Nat → List Int → Prop} (SO : SumOk) (KO : StOk St) (a : Option Addr) (len cap : Nat) (L : List Sl) (w : World) (w0 : Rows8 w a len cap L) (ht : Tab w) :
    Calls Tryd.prog 4 #[.slice a len cap] w fun e w' => e = .returned (.bool true) ∧ Below w.heap.size w w' := by
  have hlong := long_any w a len cap L w0
  have hmax := w0.hcap
  have hle := w0.hle
  unfold maxLen at hmax
  have HL := Lib.hid w0
  have HT := Lib.hid ht
  clear w0 ht
  go_enter Tryd.func4, Tryd.ntmps4
  go_wp2_with fail
  refine hlong.mono ?_
  rintro e w1 ⟨b, rfl, rfl, hshort⟩
  clear hlong
  cases b with
  | true =>
    go_wp2_with fail
    refine (works_any SO _ HT.out).mono ?_
    rintro e w3 ⟨rfl, hb⟩
    go_wp2
    go_ret
    exact ⟨rfl, hb⟩
  | false =>
    obtain ⟨hl50, hl1024⟩ := hshort rfl
    have HS := Lib.hid hl1024
    clear hshort hl1024
    go_wp2_with fail
    refine (heldB_new KO w1 HT.out).mono ?_
    rintro e w2 ⟨p, rfl, hh⟩
    have HH := Lib.hid hh
    clear hh
    go_wp2
    go_loopw [4, 5] (fun al i W => ∃ (k : Nat) (a' : Option Addr) (c' : Nat), k ≤ len ∧ i = .int .i64 k ∧ al = .slice a' (cat L k).length c' ∧ HeldB St w1 p (cat L k) a' (cat L k).length c' (cat L k) W) (fun al i _ => len - (intOf i).toNat)
    case atStart => exact ⟨0, none, 0, Nat.zero_le _, rfl, rfl, HH.out⟩
    case round =>
      obtain ⟨k, a', c', hk, rfl, rfl, hh⟩ := hrel
      have hbyt := cat_byt HL.out k
      have hcl := cat_len HL.out HS.out k hk
      by_cases hlt : k < len
      · obtain ⟨b, off, r, rfl, hbl, hr, hc, hrr, hrb, hrc, hrm⟩ := HL.out.get hlt
        have hcs : cat L (k + 1) = cat L k ++ r.zs := cat_succ hr
        have hrn : r.n ≤ 1024 := HS.out r (List.mem_of_getElem? hr)
        have HC := Lib.hid hcs
        have HR := Lib.hid (And.intro hrr (And.intro hrb (And.intro hrc hrm)))
        have HBY := Lib.hid hbyt
        have g1 : (k : Int) < len := by omega
        have hcr := hh.below.cell (p := ⟨b, off + k, none⟩) hbl
        rw [hc] at hcr
        have hwr := heldB_write KO hh hbyt r.a r.n r.c r.zs hrr hrb hrc hrm (by omega) HT.out
        have HW := Lib.hid hwr
        clear hr hrr hrb hrc hrm hcs hh hwr
        go_wp2_with fail
        refine HW.out.mono ?_
        rintro e w3 ⟨rfl, hh3⟩
        have hcr3 := hh3.below.cell (p := ⟨b, off + k, none⟩) hbl
        rw [hc] at hcr3
        obtain ⟨a3, c3, w4, hrun, hh4⟩ := heldB_append KO hh3 r.a r.n r.c r.zs HR.out.1 (by omega)
        have HRUN := Lib.hid hrun
        clear hcr hh3 hrun
        go_wp2_with (refine wpList_append_run rfl (.tmp 24) (.tmp 28) 22 rfl _ _ _ _ rfl rfl HRUN.out ?_)
        clear hcr3
        have hlen : (cat L (k + 1)).length = (cat L k).length + r.n := by rw [HC.out, List.length_append, HR.out.1.1]
        have hh5 := hh4.out
        rw [← HC.out] at hh5
        have hb5 : Byt (cat L (k + 1)) := cat_byt HL.out (k + 1)
        have HB5 := Lib.hid hb5
        have HLE := Lib.hid hlen
        rw [← hlen] at hh5
        refine (heldB_sum KO hh5 hb5 (by omega) HT.out).mono ?_
        rintro e w5 ⟨rfl, hh6⟩
        have HH6 := Lib.hid hh6
        clear hh4 hh5 hh6 hb5 hlen
        go_wp2_with fail
        refine (sum_any a3 ((cat L k).length + r.n) c3 (cat L (k + 1)) w5 (by have := HH6.out.reads; rwa [HLE.out] at this) HB5.out (by omega)).mono ?_
        rintro e w6 ⟨rfl, hb6⟩
        have hh7 := HH6.out.keep KO hb6
        have HH7 := Lib.hid hh7
        have heq := fun W => neq_sha W (cat L (k + 1))
        have hgd := fun W x y => guard_neq W x y ((sha (cat L (k + 1))).map (Value.int .u8)).toArray ((sha (cat L (k + 1))).map (Value.int .u8)).toArray
        clear hb6 hh7
        go_wp2_with fail
        clear heq hgd
        go_roundw
        case rel => exact ⟨k + 1, a3, c3, by omega, by go_num, by rw [HLE.out], HH7.out⟩
        case measure => simp [intOf]; omega
      · obtain rfl : k = len := by omega
        have HH1 := Lib.hid hh
        have HBY := Lib.hid hbyt
        have hs := heldB_sum KO hh hbyt (by omega) HT.out
        have HS1 := Lib.hid hs
        clear hh hbyt hs
        go_wp2_with fail
        refine HS1.out.mono ?_
        rintro e w3 ⟨rfl, hh3⟩
        have HH3 := Lib.hid hh3
        clear hh3
        go_wp2_with fail
        refine (sum_any a' (cat L k).length c' (cat L k) w3 HH3.out.reads HBY.out (by omega)).mono ?_
        rintro e w4 ⟨rfl, hb4⟩
        have HB4 := Lib.hid (HH3.out.below.trans (hb4.mono HH3.out.below.size))
        have heq := fun W => eql_sha W (cat L k)
        have hgd := fun W x y => guard_dv W x y ((sha (cat L k)).map (Value.int .u8)).toArray ((sha (cat L k)).map (Value.int .u8)).toArray
        clear hb4
        go_wp2_with fail
        clear heq hgd
        refine (works_any SO w4 (HT.out.below HB4.out HT.out.lt)).mono ?_
        rintro e w5 ⟨rfl, hb5⟩
        go_wp2
        go_ret
        exact ⟨rfl, HB4.out.trans (hb5.mono HB4.out.size)⟩
end Go.Proofs.YthekihginpodmaaDoor
