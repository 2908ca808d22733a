/- A system that a call puts together in a variable of its own, state by state. -/
import Derived.Test.YtlnncklanabbdaaGreatDoorPState
namespace Go.Proofs.YtlnncklanabbdaaGreatDoor
open Go.RowKit Pl

/-- the variable at block w2.heap.size holds va and the lists of ss so far; what lay below stands -/
structure SysAcc (w2 : World) (va vs : Value) (ss : List (List Edg)) (wr : World) : Prop where
  out : Whole wr w2.heap.size 25 #[va, vs]
  rows : RowsOwn wr w2.heap.size vs ss
  mid : Below w2.heap.size w2 wr
theorem SysAcc.drew {w2 wr : World} {va vs : Value} {ss : List (List Edg)} (h : SysAcc w2 va vs ss wr) : SysAcc w2 va vs ss wr.drew := ⟨h.out, h.rows, h.mid.drew⟩
theorem SysAcc.below {w2 wr wA : World} {va vs : Value} {ss : List (List Edg)} (h : SysAcc w2 va vs ss wr) (hb : Below wr.heap.size wr wA) : SysAcc w2 va vs ss wA :=
  ⟨h.out.below hb h.out.lt, h.rows.below hb, h.mid.trans (hb.mono h.mid.size)⟩
theorem SysAcc.start (w2 : World) (va : Value) : SysAcc w2 va (.slice none 0 0) [] (w2.alloc (.cells #[va, .slice none 0 0] 25)) :=
  ⟨Whole.new _ _ _, RowsOwn.none _ _, (Below.refl _ w2).alloc (Nat.le_refl _) _⟩
theorem SysAcc.mono_mid {w2 wr : World} {va vs : Value} {ss : List (List Edg)} (h : SysAcc w2 va vs ss wr) {B C : Nat} (h1 : B ≤ w2.heap.size) (h2 : C < B) : Below C w2 wr := h.mid.mono (by omega)
/-- what is known of the variable behind the append -/
theorem SysAcc.grown {w2 wA wB : World} {va vs : Value} {ss : List (List Edg)} (h : SysAcc w2 va vs ss wA) (hg : wA.grownBy wB vs.ownBlock) : Whole wB w2.heap.size 25 #[va, vs] := by
  obtain ⟨rows, r1, r2, r3⟩ := h.rows
  exact h.out.grown hg (own_whole r2 h.out (by decide))
/-- one state more -/
theorem SysAcc.next {w2 wA wB : World} {va vs v1 v2 : Value} {ss : List (List Edg)} {l : List Edg} (h : SysAcc w2 va vs ss wA) (hA : EdgeOwn wA w2.heap.size v1 l) (hg : wA.grownBy wB vs.ownBlock)
    (hB : ∀ rows, wA.ownsRow w2.heap.size 77 1 vs ss.length rows → rows.length = ss.length → wB.ownsRow w2.heap.size 77 1 v2 (ss.length + 1) (rows ++ [v1])) :
    SysAcc w2 va v2 (ss ++ [l]) (wB.setCell ⟨w2.heap.size, 1, none⟩ v2) := by
  have hw := h.grown hg
  obtain ⟨rows, r1, r2, r3⟩ := h.rows
  have hs := RowsOwn.snoc (v' := v2) ⟨rows, r1, r2, r3⟩ hA hg hB
  refine ⟨by simpa using hw.set 1 v2, ?_, (h.mid.grown hg h.mid.size (own_ge r2)).setCell (by simp) _⟩
  exact hs.kept (grown_self wB ⟨w2.heap.size, 1, none⟩ v2) (.inr (own_whole hs.choose_spec.2.1 hw (by decide)).symm) (fun r l hr => .inr (own_whole hr hw (by decide)).symm)
theorem StrArg.kept {w w' : World} {a : Option Addr} {n c : Nat} {ss : List ByteArray} {row : Option Nat} (h : StrArg w a n c ss) (hg : w.grownBy w' row) (hne : ∀ ad, a = some ad → some ad.block ≠ row) : StrArg w' a n c ss :=
  ⟨h.nil, h.len, h.cap, h.big, h.sz, fun j hj => by
    obtain ⟨b, off, e, hc⟩ := h.cells j hj
    refine ⟨b, off, e, ?_⟩
    rw [World.cell?_of_block (hg.block b (lt_of_cell hc) (hne _ e))]
    exact hc⟩
/-- the lists of a system that lies apart from a variable, behind two stores into it -/
theorem rows_stored {w : World} {base g : Nat} {vs x y u v : Value} {ss : List (List Edg)} (h : RowsOwn w base vs ss) (hw : Whole w g 25 #[x, y]) :
    RowsOwn ((w.setCell ⟨g, 0, none⟩ u).setCell ⟨g, 1, none⟩ v) base vs ss := by
  have s1 := h.kept (grown_self w ⟨g, 0, none⟩ u) (.inr (own_whole h.choose_spec.2.1 hw (by decide)).symm) (fun r l hr => .inr (own_whole hr hw (by decide)).symm)
  have hw1 := hw.set 0 u
  exact s1.kept (grown_self _ ⟨g, 1, none⟩ v) (.inr (own_whole s1.choose_spec.2.1 hw1 (by decide)).symm) (fun r l hr => .inr (own_whole hr hw1 (by decide)).symm)
theorem strs_stored {w : World} {a : Option Addr} {n c g : Nat} {ss : List ByteArray} {u v : Value} (h : StrArg w a n c ss) (hne : ∀ ad, a = some ad → ad.block ≠ g) :
    StrArg ((w.setCell ⟨g, 0, none⟩ u).setCell ⟨g, 1, none⟩ v) a n c ss :=
  (h.kept (grown_self w ⟨g, 0, none⟩ u) (fun ad e q => hne ad e (Option.some.inj q))).kept (grown_self _ ⟨g, 1, none⟩ v) (fun ad e q => hne ad e (Option.some.inj q))
theorem sys_nil (w : World) : SysArg w none 0 0 none 0 0 noSys :=
  ⟨⟨fun _ => rfl, rfl, Nat.le_refl _, by omega, fun k hk => by omega, fun j hj => by simp [noSys] at hj⟩, by omega, fun _ => rfl, rfl, Nat.le_refl _, by omega, fun i hi => by simp [noSys] at hi⟩
end Go.Proofs.YtlnncklanabbdaaGreatDoor
