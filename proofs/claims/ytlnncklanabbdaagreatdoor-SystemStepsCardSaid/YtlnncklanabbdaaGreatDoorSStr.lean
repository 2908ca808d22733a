/- system.String. -/
import Derived.Test.YtlnncklanabbdaaGreatDoorTText
namespace Go.Proofs.YtlnncklanabbdaaGreatDoor
open Go.RowKit Pl

def sstrV (m : Syst) : Value := if sysB m = true then .tuple #[.string (mk (strS m)), .int .i64 0] else .tuple #[.string ⟨#[]⟩, .int .i64 20]
theorem sstrV_no {m : Syst} (h : sysB m = false) : sstrV m = .tuple #[.string ⟨#[]⟩, .int .i64 20] := by unfold sstrV; rw [h]; rfl
theorem sstrV_yes {m : Syst} (h : sysB m = true) : sstrV m = .tuple #[.string (mk (strS m)), .int .i64 0] := if_pos h
set_option maxRecDepth 100000 in
set_option maxHeartbeats 4000000 in
theorem SString_any {w : World} {a : Option Addr} {n c : Nat} {b : Option Addr} {k d : Nat} {m : Syst} (E : Env w) (A : SysArg w a n c b k d m) :
    Calls Tryz.prog 22 #[.agg #[.slice a n c, .slice b k d]] w fun e w' => e = .returned (sstrV m) ∧ Below w.heap.size w w' := by
  have hB := (Below.refl w.heap.size w).alloc (Nat.le_refl _) (.cells #[.slice a n c, .slice b k d] 25)
  have HA := Lib.hid A
  have HE := Lib.hid E
  have hw := Whole.new w 25 #[.slice a n c, .slice b k d]
  obtain ⟨e0, e1, e2, hE⟩ := E.errs
  have HC := Lib.hid (SCheck_any (hE.below hB) (A.below hB))
  have HBB := Lib.hid hB
  have HW := Lib.hid hw
  clear A hB E hE hw
  have hmf : ∀ (fn : Fn) (first cap : Array Value) (w : World), (Instr.makeFunc fn first cap).run Tryz.prog w = .ok (.func fn first cap) w := fun _ _ _ _ => rfl
  cases hv : sysB m
  · have HV := Lib.hid (sstrV_no hv)
    rw [chk_no hv] at HC
    clear hv
    go_enter Tryz.func22, Tryz.ntmps22
    go_wp2_with fail
    refine HC.out.mono ?_
    rintro e w1 ⟨rfl, hb1⟩
    go_wp2
    go_ret2
    exact ⟨by rw [HV.out]; rfl, HBB.out.trans (hb1.mono HBB.out.size)⟩
  · have HV := Lib.hid (sstrV_yes hv)
    rw [chk_yes hv] at HC
    have HS := Lib.hid hv
    clear hv
    go_enter Tryz.func22, Tryz.ntmps22
    go_wp2_with fail
    refine HC.out.mono ?_
    rintro e w1 ⟨rfl, hb1⟩
    have hb0 := HBB.out.trans (hb1.mono HBB.out.size)
    have hw1 := HW.out.below hb1 HW.out.lt
    have q0 := hw1.cell 0
    have q1 := hw1.cell 1
    have HT := Lib.hid (TText_any ⟨#[115, 121, 115, 116, 101, 109]⟩ rfl (HE.out.below hb0) (HA.out.below hb0) HS.out hw1)
    have HB0 := Lib.hid hb0
    simp only [List.getElem?_toArray, List.getElem?_cons_succ, List.getElem?_cons_zero] at q0 q1
    clear hb0 hb1 hw1
    go_wp2_with fail
    refine HT.out.mono ?_
    rintro e w2 ⟨rfl, hb2⟩
    go_wp2
    go_ret2
    exact ⟨by rw [HV.out]; rfl, HB0.out.trans (hb2.mono HB0.out.size)⟩
end Go.Proofs.YtlnncklanabbdaaGreatDoor
