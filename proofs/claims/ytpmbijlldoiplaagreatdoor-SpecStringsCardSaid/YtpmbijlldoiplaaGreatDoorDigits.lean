/- The reference's Digits and Number. -/
import Derived.Test.YtpmbijlldoiplaaGreatDoorText2
import Derived.Test.YtpmbijlldoiplaaGreatDoorCheck
import Derived.WalkKit
import Derived.WalkSpells
import Derived.Lib.ItoaLen
namespace Go.Proofs.YtpmbijlldoiplaaGreatDoor
open Go.RowKit Pl

theorem digit_fin : ∀ d : Fin 10, Utf8.encode (48 + (d.val : Int)) = mk [UInt8.ofNat (48 + d.val)] := by decide +kernel
theorem digit_enc (n : Nat) : Utf8.encode (48 + (n : Int) % 10) = mk [UInt8.ofNat (48 + n % 10)] := by
  have h := digit_fin ⟨n % 10, by omega⟩
  simpa using h
theorem mk_app (a b : List UInt8) : mk a ++ mk b = mk (a ++ b) := by
  apply ByteArray.ext
  simp [mk, ByteArray.data_append]
theorem mk_len (l : List UInt8) : (mk l).size = l.length := by simp [mk, ByteArray.size]
theorem dec_short (n : Nat) (hn : n ≤ 9223372036854775807) : (Lib.decDigits n).length ≤ 21 := by
  have h := Lib.itoa_length_le (n : Int) (by omega) (by omega)
  unfold Lib.itoa at h
  rw [if_neg (by omega)] at h
  simpa using h
set_option maxHeartbeats 1000000 in
theorem Digits_any (n : Nat) (hn : n ≤ 9223372036854775807) (w : World) :
    Calls Tryz.prog 59 #[.int .i64 n] w fun e w' => e = .returned (.string (mk (Lib.decDigits n))) ∧ w = w' := by
  have hs := dec_short n hn
  go_enter Tryz.func59, Tryz.ntmps59
  go_wp2
  go_loop [0, 3] (fun c s => ∃ (k : Nat) (l : List UInt8), c = .int .i64 k ∧ s = .string (mk l) ∧ k ≤ n ∧ Hid (Lib.decDigits n = (if k < 10 then [] else Lib.decDigits (k / 10)) ++ l)) (fun c _ => (intOf c).toNat)
  case atStart => exact ⟨n, [UInt8.ofNat (48 + n % 10)], rfl, by rw [digit_enc], Nat.le_refl _, Lib.hid (dec_split n)⟩
  case round =>
    obtain ⟨k, l, rfl, rfl, hk, h⟩ := hrel
    have hl : (mk l).size ≤ 21 := by
      have := h.out
      rw [this, List.length_append] at hs
      rw [mk_len]; omega
    by_cases hlt : 10 ≤ k
    · have hg : ((10 : Int) ≤ k) := by omega
      obtain ⟨x, HX⟩ : ∃ x, Hid (UInt8.ofNat (48 + k / 10 % 10) = x) := ⟨_, Lib.hid rfl⟩
      have he : Utf8.encode (48 + (k : Int) / 10 % 10) = mk [x] := by
        rw [← HX.out]
        have := digit_enc (k / 10)
        simpa using this
      have h1 : (mk [x]).size ≤ 1 := by rw [mk_len]; simp
      have HN : Hid (Lib.decDigits n = (if k / 10 < 10 then [] else Lib.decDigits (k / 10 / 10)) ++ (x :: l)) := Lib.hid (by
        have h2 := h.out
        rw [if_neg (by omega), dec_split (k / 10), HX.out] at h2
        rw [h2, List.append_assoc]; rfl)
      go_wp2
      go_round
      case rel => exact ⟨k / 10, x :: l, by simp, by rw [mk_app]; rfl, by omega, HN⟩
      case measure => simp [intOf]; omega
    · have hg : ((k : Int) < 10) := by omega
      have HN : Hid (Lib.decDigits n = l) := Lib.hid (by
        have h2 := h.out
        rwa [if_pos (by omega), List.nil_append] at h2)
      go_wp2
      go_ret
      exact ⟨by rw [HN.out]; rfl, rfl⟩
end Go.Proofs.YtpmbijlldoiplaaGreatDoor
