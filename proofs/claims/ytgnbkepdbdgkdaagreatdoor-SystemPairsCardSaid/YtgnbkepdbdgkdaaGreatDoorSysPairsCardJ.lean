/- SystemPairs of package makeweightlaw02 returns true for every system and every system and every list of numbers, and what came in reads as it did. Conditions: the package-level tables and errors that the row lists hold what the program's text lays in them (the card ties them), and the form's own reach; nothing else. -/
import Derived.Test.YtgnbkepdbdgkdaaGreatDoorJq33
import Derived.Test.YtgnbkepdbdgkdaaGreatDoorJq34
import Derived.ChangeMaps5
namespace Go.Proofs.YtgnbkepdbdgkdaaGreatDoor.systemPairs
open Go.ChangeShapes Go.WideShapes Go.ChangeAt Go.RowKit

set_option maxRecDepth 100000

theorem contract (H : Type) (enc : TypeId × Value → H) (W : World) (base : Nat) (args : Array Value) (ds gs : List (DataW H)) (before : List MemPlace)
    (hval : ∀ (j : Nat) t v, Tryz.f5.params[j]? = some t → args[j]? = some v → Value.okWide Tryz.prog W .any base t v)
    (hW : DataW.Whole enc Tryz.prog Tryz.f5.params.toList Rows.systemPairsSpec.vars false W args.toList ds gs before)
    (hsz : (DataW.weightsEach Tryz.prog (Tryz.f5.params.toList ++ Rows.systemPairsSpec.plain.varTypes Tryz.prog) (ds ++ gs)).all (· ≤ reachBytes) = true)
    (hL : laidMetH Tryz.prog Rows.systemPairsRow.laid W) (hsh : W.ShapedOpen Tryz.prog) :
    Calls Tryz.prog 5 args W fun e W' => ∃ v, e = .returned v ∧ Rows.systemPairsSpec.post enc Tryz.prog Tryz.f5 false true false false W args v W' := by
  have hW' := hW
  obtain ⟨p, q, hA, hV, rfl, hfz, hnd⟩ := hW
  rw [Tryz.params5] at hA hval hsz
  obtain ⟨v0, v1, v2, d0, d1, d2, p0, p1, p2, rfl, rfl, rfl, h0, h1, h2⟩ := trodAll_three hA
  obtain ⟨a0, n0, c0, b0, k0, e0, m0, rfl, A0⟩ := sysArg_of (j := 0) (hval 0 _ v0 rfl rfl) h0 hsz rfl rfl
  obtain ⟨a1, n1, c1, b1, k1, e1, m1, rfl, A1⟩ := sysArg_of (j := 1) (hval 1 _ v1 rfl rfl) h1 hsz rfl rfl
  obtain ⟨a2, n2, c2, xs2, rfl, A2, r2, w2⟩ := intArg_of (j := 2) (hval 2 _ v2 rfl rfl) h2 hsz rfl rfl
  have E := env_of_laid hL hsh
  refine (SystemPairs_any  E A0 A1 A2 r2 w2).mono fun e W' ⟨he, hb⟩ => ?_
  subst he
  exact ⟨_, rfl, ended hW' rfl (by kernel_rfl) (by kernel_rfl) rfl hb⟩

theorem laid_met (os : Os) (args : Array Value) : laidMet Tryz.prog Rows.systemPairsRow.laid ((World.laidAll Tryz.prog os Rows.systemPairsRow.laid).forCall (fun _ _ => 0) ⟨#[], args, []⟩).memory :=
  laidMet_laidAll args (by kernel_rfl) (by kernel_rfl)
theorem laid_metH (os : Os) (args : Array Value) : laidMetH Tryz.prog Rows.systemPairsRow.laid ((World.laidAll Tryz.prog os Rows.systemPairsRow.laid).forCall (fun _ _ => 0) ⟨#[], args, []⟩).memory := by
  rw [MakeChecks.laidMetH_plain _ _ _ (by kernel_rfl)]
  exact laid_met os args
theorem reads (os : Os) {H : Type} (enc : TypeId × Value → H) : ∃ places, DataW.whole enc Tryz.prog ((World.laidAll Tryz.prog os Rows.systemPairsRow.laid).forCall (fun _ _ => 0) ⟨#[], #[.agg #[.slice none 0 0, .slice none 0 0], .agg #[.slice none 0 0, .slice none 0 0], .slice none 0 0], []⟩).memory Tryz.f5.params.toList Rows.systemPairsSpec.vars false (#[.agg #[.slice none 0 0, .slice none 0 0], .agg #[.slice none 0 0, .slice none 0 0], .slice none 0 0] : Array Value).toList 8 = some ([.agg [.nil, .nil], .agg [.nil, .nil], .nil], [], places) :=
  ⟨[], by kernel_rfl⟩

theorem lifted (os : Os) (started : os.Started) (H : Type) (enc : TypeId × Value → H) (F : Stop.Interp) :
    ReturnsInHanded {} Tryz.checked os 5 .any ((OpenSpec.ofChange Rows.systemPairsSpec).preRow enc Tryz.prog Tryz.f5 Rows.systemPairsRow.domain false Rows.systemPairsRow.laid) (((OpenSpec.ofChange Rows.systemPairsSpec).at F).post enc Tryz.prog Tryz.f5 false true false false) := by
  obtain ⟨places, hx⟩ := reads os enc
  refine returnsInHanded_of_row (C := Tryz.checked) (s := OpenSpec.ofChange Rows.systemPairsSpec) own started (by kernel_rfl) Tryz.func5
    (witness_row_atRef (enc := enc) (C := Tryz.checked) false (World.laidAll Tryz.prog os Rows.systemPairsRow.laid) #[.agg #[.slice none 0 0, .slice none 0 0], .agg #[.slice none 0 0, .slice none 0 0], .slice none 0 0] (World.laidAll_os _ _ _) (by kernel_rfl) (by kernel_rfl) (by kernel_rfl)
      (OpenSpec.preRow_of_cond 8 hx (by kernel_rfl) (fun k hk => by cases hk) (by kernel_rfl) (laid_metH os _))) ?_
  intro W base args ds gs before hval hW _ _ hsz hL hsh _
  exact contract H enc W base args ds gs before hval hW hsz hL hsh

/-- what the row lists of the functions that a run comes to, one statement each (one kernel check for all together wants too much memory) -/
theorem cI : (Rows.systemPairsRow.inPlace == Tryz.prog.inPlace 5) = true := by kernel_rfl
theorem cU : (Rows.systemPairsRow.unfollowed == Tryz.prog.unfollowed 5) = true := by kernel_rfl
theorem cR : (Rows.systemPairsRow.recurses == Tryz.prog.recurses 5) = true := by kernel_rfl
theorem cN : (Rows.systemPairsRow.named == Tryz.prog.varsNamed 5) = true := by kernel_rfl
theorem closed : joinedFacts Tryz.pinned.checked.prog 5 Tryz.f5 (OpenSpec.ofChange Rows.systemPairsSpec).bare Rows.systemPairsRow = true := by
  unfold joinedFacts
  rw [show (Rows.systemPairsRow.inPlace == Tryz.pinned.checked.prog.inPlace 5) = true from cI, show (Rows.systemPairsRow.unfollowed == Tryz.pinned.checked.prog.unfollowed 5) = true from cU,
    show (Rows.systemPairsRow.recurses == Tryz.pinned.checked.prog.recurses 5) = true from cR, show (Rows.systemPairsRow.named == Tryz.pinned.checked.prog.varsNamed 5) = true from cN]
  kernel_rfl

theorem said : Rows.SystemPairsSaid :=
  OpenClaim.holds_of_cond 5 Tryz.f5 rfl rfl rfl rfl rfl rfl rfl ⟨rfl, rfl, rfl, rfl, rfl⟩ rfl rfl rfl rfl rfl (by kernel_rfl) Tryz.func5 closed
    (of_decide_eq_true (by kernel_rfl)) (by unfold Func.isWrapper; first | (rw [if_pos (by decide +kernel)]; kernel_rfl) | (rw [if_neg (by decide +kernel)]; exact ⟨rfl, rfl⟩))
    (fun os started H enc _ F => by rw [OpenClaim.pre_eq_preRow]; exact lifted os started H enc F)

theorem plain (f : FuncId) (fn : Func) (hf : Tryz.pinned.checked.prog.funcNamed "makeweight/makeweightlaw02.SystemPairs" = some f) (hfn : Tryz.pinned.checked.prog.funcs[f]? = some fn) :
    true = Tryz.pinned.checked.prog.looks [] ∧ ∀ (j : Nat) t, fn.params[j]? = some t → Tryz.pinned.checked.prog.wantsStandIn t = false := by
  obtain rfl : f = 5 := Option.some.inj ((show Tryz.prog.funcNamed "makeweight/makeweightlaw02.SystemPairs" = some 5 by kernel_rfl).symm.trans hf) |>.symm
  obtain rfl : fn = Tryz.f5 := (Option.some.inj (Tryz.func5.symm.trans hfn)).symm
  refine ⟨by kernel_rfl, fun j t ht => ?_⟩
  rw [Tryz.params5] at ht
  have hm := Array.mem_of_getElem? ht
  have hall : (#[25, 25, 28] : Array TypeId).all (fun t => !Tryz.prog.wantsStandIn t) = true := by kernel_rfl
  rw [Array.all_eq_true'] at hall
  show Tryz.prog.wantsStandIn t = false
  simpa using hall t hm

/-- THE CARD -/
theorem card : Rows.SystemPairsCardSaid :=
  Claim7.holds_tied_plain_at .later [] _ _ _ _ said (fun _ h => by cases h) (by kernel_rfl) (fun _ h => by cases h) systemPairs_row_tie rfl ⟨rfl, rfl⟩ (by kernel_rfl) rfl plain (by kernel_rfl)
end Go.Proofs.YtgnbkepdbdgkdaaGreatDoor.systemPairs
