/- Words of actions: terms.IsWord, the reference's Word. -/
import Derived.Test.YtpmbijlldoiplaaGreatDoorStepPl
import Derived.Test.YtpmbijlldoiplaaGreatDoorCheck
namespace Go.Proofs.YtpmbijlldoiplaaGreatDoor
open Go.RowKit Pl

theorem RActions_any' {w : World} {wa : Option Addr} {wn wc : Nat} {word : List Int} (n : Nat) (_hn : n ≤ 9223372036854775807) (L : IntArg w wa wn wc word) :
    Calls Tryz.prog 82 #[.int .i64 n, .slice wa wn wc] w fun e w' => e = .returned (.bool (actsK n word)) ∧ w = w' := by
  have HL := Lib.hid L
  have HLL := Lib.hid L.len
  have hwn : wn ≤ 9223372036854775807 := L.big
  clear L
  go_enter Tryz.func82, Tryz.ntmps82
  go_wp2
  go_loop [6, 9] (fun _ i => ∃ j : Nat, j ≤ wn ∧ i = .int .i64 j ∧ Hid (∀ x, x < j → 0 ≤ word.getD x 0 ∧ word.getD x 0 < n)) (fun _ i => wn - (intOf i).toNat)
  case atStart => exact ⟨0, Nat.zero_le _, rfl, Lib.hid fun x hx => by omega⟩
  case round =>
    obtain ⟨j, hj, rfl, hg⟩ := hrel
    by_cases hlt : j < wn
    · obtain ⟨bl, ol, rfl, c1⟩ := HL.out.cells j (by have := HLL.out; omega)
      obtain ⟨x, HX⟩ : ∃ x, Hid (word.getD j 0 = x) := ⟨_, Lib.hid rfl⟩
      rw [HX.out] at c1
      by_cases hx0 : x < 0
      · have HB : Hid (actsK n word = false) := Lib.hid (actsK_bad (k := j) (by have := HLL.out; omega) (actK_no (.inl (by rw [HX.out]; exact hx0))))
        go_wp2
        go_ret
        exact ⟨by rw [HB.out]; rfl, rfl⟩
      · by_cases hx1 : (n : Int) ≤ x
        · have HB : Hid (actsK n word = false) := Lib.hid (actsK_bad (k := j) (by have := HLL.out; omega) (actK_no (.inr (by rw [HX.out]; exact hx1))))
          go_wp2
          go_ret
          exact ⟨by rw [HB.out]; rfl, rfl⟩
        · have HG : Hid (∀ z, z < j + 1 → 0 ≤ word.getD z 0 ∧ word.getD z 0 < n) := Lib.hid fun z hz => by
            by_cases e : z = j
            · rw [e, HX.out]; omega
            · exact hg.out z (by omega)
          go_wp2
          go_round
          case rel => exact ⟨j + 1, by omega, by go_num, HG⟩
          case measure => simp [intOf]; omega
    · have HB : Hid (actsK n word = true) := Lib.hid ((actsK_iff n word).2 (fun z hz => hg.out z (by have := HLL.out; omega)))
      go_wp2
      go_ret
      exact ⟨by rw [HB.out]; rfl, rfl⟩
end Go.Proofs.YtpmbijlldoiplaaGreatDoor
