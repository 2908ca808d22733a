/- awake: the few fixed calls that every law makes. -/
import Derived.Test.YtcbmlchlllpnoaaDoorParse
import Derived.Test.YtcbmlchlllpnoaaDoorStr
namespace Go.Proofs.YtcbmlchlllpnoaaDoor
open Go.RowKit Pl

def bCoin : ByteArray := ⟨#[99, 111, 105, 110]⟩
def bTea : ByteArray := ⟨#[116, 101, 97]⟩
def bA : ByteArray := ⟨#[97]⟩
theorem aw1 : stringV [bCoin, bTea] 3 = .tuple #[.string ⟨#[123, 99, 111, 105, 110, 44, 116, 101, 97, 125]⟩, .int .i64 0] := by kernel_rfl
theorem aw2 : ParseV [bCoin, bTea] ⟨#[123, 116, 101, 97, 125]⟩ = .tuple #[.int .i64 2, .int .i64 0] := by kernel_rfl
theorem aw3 : findV [bCoin, bTea] bTea = .tuple #[.int .i64 1, .bool true, .int .i64 0] := by kernel_rfl
theorem aw4 : actsB [bA, bA] = false := by kernel_rfl
theorem two_strs (w : World) (x y : ByteArray) (t : TypeId) (hx : x.size ≤ 9223372036854775807) (hy : y.size ≤ 9223372036854775807) : StrArg (w.alloc (.cells #[.string x, .string y] t)) (some ⟨w.heap.size, 0, none⟩) 2 2 [x, y] := by
  refine ⟨(fun h => by cases h), rfl, Nat.le_refl _, by omega, fun k hk => ?_, fun j hj => ⟨w.heap.size, 0, rfl, ?_⟩⟩
  · have : k = 0 ∨ k = 1 := by omega
    rcases this with rfl | rfl
    · exact hx
    · exact hy
  · have : j = 0 ∨ j = 1 := by simp at hj; omega
    rcases this with rfl | rfl <;> (unfold World.cell?; simp only [World.alloc_heap_new]; rfl)
set_option maxRecDepth 100000 in
set_option maxHeartbeats 1000000 in
theorem awake_any {w : World} {e0 e1 e2 : Addr} (E : Errs w e0 e1 e2) (T : Tab w) :
    Calls Tryd.prog 13 #[] w fun e w' => e = .returned (.bool true) ∧ Below w.heap.size w w' := by
  have B1 : Below w.heap.size w (w.alloc (.cells #[.string bCoin, .string bTea] 9)) := (Below.refl _ w).alloc (Nat.le_refl _) _
  have A1 := two_strs w bCoin bTea 9 (by decide) (by decide)
  have H1 := Lib.hid (String_any 3 (E.below B1) (T.below B1) A1)
  rw [aw1] at H1
  have H2 : Hid (∀ w1, Below (w.alloc (.cells #[.string bCoin, .string bTea] 9)).heap.size (w.alloc (.cells #[.string bCoin, .string bTea] 9)) w1 → Calls Tryd.prog 20 #[.slice (some ⟨w.heap.size, 0, none⟩) 2 2, .string ⟨#[123, 116, 101, 97, 125]⟩] w1 fun e w' => e = .returned (.tuple #[.int .i64 2, .int .i64 0]) ∧ Below w1.heap.size w1 w') := Lib.hid fun w1 hb => by
    rw [← aw2]; exact Parse_any _ (by decide) ((E.below B1).below hb) (A1.below hb)
  have H3 : Hid (∀ w1, Below (w.alloc (.cells #[.string bCoin, .string bTea] 9)).heap.size (w.alloc (.cells #[.string bCoin, .string bTea] 9)) w1 → Calls Tryd.prog 12 #[.slice (some ⟨w.heap.size, 0, none⟩) 2 2, .string bTea] w1 fun e w' => e = .returned (.tuple #[.int .i64 1, .bool true, .int .i64 0]) ∧ w1 = w') := Lib.hid fun w1 hb => by
    rw [← aw3]; exact Find_any _ ((E.below B1).below hb) (A1.below hb)
  have H4 : Hid (∀ w1, Below (w.alloc (.cells #[.string bCoin, .string bTea] 9)).heap.size (w.alloc (.cells #[.string bCoin, .string bTea] 9)) w1 → Calls Tryd.prog 10 #[.slice (some ⟨w1.heap.size, 0, none⟩) 2 2] (w1.alloc (.cells #[.string bA, .string bA] 9)) fun e w' => e = .returned (.int .i64 10) ∧ w1.alloc (.cells #[.string bA, .string bA] 9) = w') := Lib.hid fun w1 hb => by
    have hb2 : Below w1.heap.size w1 (w1.alloc (.cells #[.string bA, .string bA] 9)) := (Below.refl _ w1).alloc (Nat.le_refl _) _
    have := Check_any (((E.below B1).below hb).below hb2) (two_strs w1 bA bA 9 (by decide) (by decide))
    rw [aw4] at this
    exact this
  have HB := Lib.hid B1
  clear B1 A1
  go_enter Tryd.func13, Tryd.ntmps13
  go_wp2_with fail
  refine H1.out.mono ?_
  rintro e w1 ⟨rfl, hb1⟩
  go_wp2_with fail
  refine (H2.out _ hb1).mono ?_
  rintro e w2 ⟨rfl, hb2⟩
  go_wp2_with fail
  refine (H3.out _ (hb1.trans (hb2.mono hb1.size))).mono ?_
  rintro e w3 ⟨rfl, rfl⟩
  go_wp2_with fail
  refine (H4.out _ (hb1.trans (hb2.mono hb1.size))).mono ?_
  rintro e w4 ⟨rfl, rfl⟩
  go_wp2
  go_ret
  have h12 := hb1.trans (hb2.mono hb1.size)
  exact ⟨rfl, ((HB.out.trans (h12.mono HB.out.size))).alloc (by have := HB.out.size; have := h12.size; omega) _⟩
end Go.Proofs.YtcbmlchlllpnoaaDoor
