/- Words of actions: terms.IsWord, the reference's Word; the reference's Offer. -/
import Derived.Test.YtlnncklanabbdaaGreatDoorRNext
import Derived.Test.YtlnncklanabbdaaGreatDoorOffer
namespace Go.Proofs.YtlnncklanabbdaaGreatDoor
open Go.RowKit Pl

theorem IsWord_any {w : World} {wa : Option Addr} {wn wc : Nat} {word : List Int} (n : Nat) (_hn : n ≤ 9223372036854775807) (L : IntArg w wa wn wc word) :
    Calls Tryz.prog 69 #[.slice wa wn wc, .int .i64 n] w fun e w' => e = .returned (.bool (wordB n word)) ∧ w = w' := by
  have HL := Lib.hid L
  have HLL := Lib.hid L.len
  have hwn : wn ≤ 9223372036854775807 := L.big
  clear L
  by_cases h4 : wn ≤ 10000
  · have HV : Hid (wordB n word = actsK n word) := Lib.hid (by unfold wordB; rw [decide_eq_true (by have := HLL.out; omega)]; rfl)
    go_enter Tryz.func69, Tryz.ntmps69
    go_wp2
    go_loop [6, 12] (fun _ i => ∃ j : Nat, j ≤ wn ∧ i = .int .i64 j ∧ Hid (∀ x, x < j → 0 ≤ word.getD x 0 ∧ word.getD x 0 < n)) (fun _ i => wn - (intOf i).toNat)
    case atStart => exact ⟨0, Nat.zero_le _, rfl, Lib.hid fun x hx => by omega⟩
    case round =>
      obtain ⟨j, hj, rfl, hg⟩ := hrel
      by_cases hlt : j < wn
      · obtain ⟨bl, ol, rfl, c1⟩ := HL.out.cells j (by have := HLL.out; omega)
        obtain ⟨x, HX⟩ : ∃ x, Hid (word.getD j 0 = x) := ⟨_, Lib.hid rfl⟩
        rw [HX.out] at c1
        by_cases hx0 : x < 0
        · have HB : Hid (wordB n word = false) := Lib.hid (by rw [HV.out]; exact actsK_bad (k := j) (by have := HLL.out; omega) (actK_no (.inl (by rw [HX.out]; exact hx0))))
          go_wp2
          go_ret
          exact ⟨by rw [HB.out]; rfl, rfl⟩
        · by_cases hx1 : (n : Int) ≤ x
          · have HB : Hid (wordB n word = false) := Lib.hid (by rw [HV.out]; exact actsK_bad (k := j) (by have := HLL.out; omega) (actK_no (.inr (by rw [HX.out]; exact hx1))))
            go_wp2
            go_ret
            exact ⟨by rw [HB.out]; rfl, rfl⟩
          · have HG : Hid (∀ z, z < j + 1 → 0 ≤ word.getD z 0 ∧ word.getD z 0 < n) := Lib.hid fun z hz => by
              by_cases e : z = j
              · rw [e, HX.out]; omega
              · exact hg.out z (by omega)
            go_wp2
            go_round
            case rel => exact ⟨j + 1, by omega, by go_num, HG⟩
            case measure => simp [intOf]; omega
      · have HB : Hid (wordB n word = true) := Lib.hid (by rw [HV.out]; exact (actsK_iff n word).2 (fun z hz => hg.out z (by have := HLL.out; omega)))
        go_wp2
        go_ret
        exact ⟨by rw [HB.out]; rfl, rfl⟩
  · have HB : Hid (wordB n word = false) := Lib.hid (by unfold wordB; rw [decide_eq_false (by have := HLL.out; omega)]; rfl)
    go_enter Tryz.func69, Tryz.ntmps69
    go_wp2
    go_ret
    exact ⟨by rw [HB.out]; rfl, rfl⟩
theorem RActions_any' {w : World} {wa : Option Addr} {wn wc : Nat} {word : List Int} (n : Nat) (_hn : n ≤ 9223372036854775807) (L : IntArg w wa wn wc word) :
    Calls Tryz.prog 65 #[.int .i64 n, .slice wa wn wc] w fun e w' => e = .returned (.bool (actsK n word)) ∧ w = w' := by
  have HL := Lib.hid L
  have HLL := Lib.hid L.len
  have hwn : wn ≤ 9223372036854775807 := L.big
  clear L
  go_enter Tryz.func65, Tryz.ntmps65
  go_wp2
  go_loop [6, 9] (fun _ i => ∃ j : Nat, j ≤ wn ∧ i = .int .i64 j ∧ Hid (∀ x, x < j → 0 ≤ word.getD x 0 ∧ word.getD x 0 < n)) (fun _ i => wn - (intOf i).toNat)
  case atStart => exact ⟨0, Nat.zero_le _, rfl, Lib.hid fun x hx => by omega⟩
  case round =>
    obtain ⟨j, hj, rfl, hg⟩ := hrel
    by_cases hlt : j < wn
    · obtain ⟨bl, ol, rfl, c1⟩ := HL.out.cells j (by have := HLL.out; omega)
      obtain ⟨x, HX⟩ : ∃ x, Hid (word.getD j 0 = x) := ⟨_, Lib.hid rfl⟩
      rw [HX.out] at c1
      by_cases hx0 : x < 0
      · have HB : Hid (actsK n word = false) := Lib.hid (actsK_bad (k := j) (by have := HLL.out; omega) (actK_no (.inl (by rw [HX.out]; exact hx0))))
        go_wp2
        go_ret
        exact ⟨by rw [HB.out]; rfl, rfl⟩
      · by_cases hx1 : (n : Int) ≤ x
        · have HB : Hid (actsK n word = false) := Lib.hid (actsK_bad (k := j) (by have := HLL.out; omega) (actK_no (.inr (by rw [HX.out]; exact hx1))))
          go_wp2
          go_ret
          exact ⟨by rw [HB.out]; rfl, rfl⟩
        · have HG : Hid (∀ z, z < j + 1 → 0 ≤ word.getD z 0 ∧ word.getD z 0 < n) := Lib.hid fun z hz => by
            by_cases e : z = j
            · rw [e, HX.out]; omega
            · exact hg.out z (by omega)
          go_wp2
          go_round
          case rel => exact ⟨j + 1, by omega, by go_num, HG⟩
          case measure => simp [intOf]; omega
    · have HB : Hid (actsK n word = true) := Lib.hid ((actsK_iff n word).2 (fun z hz => hg.out z (by have := HLL.out; omega)))
      go_wp2
      go_ret
      exact ⟨by rw [HB.out]; rfl, rfl⟩
theorem RWord_any {w : World} {wa : Option Addr} {wn wc : Nat} {word : List Int} (n : Nat) (hn : n ≤ 9223372036854775807) (L : IntArg w wa wn wc word) :
    Calls Tryz.prog 25 #[.int .i64 n, .slice wa wn wc] w fun e w' => e = .returned (.bool (wordB n word)) ∧ w = w' := by
  have HC := Lib.hid (RActions_any' n hn L)
  have HLL := Lib.hid L.len
  have hwn : wn ≤ 9223372036854775807 := L.big
  clear L
  by_cases h4 : wn ≤ 10000
  · have HV : Hid (wordB n word = actsK n word) := Lib.hid (by unfold wordB; rw [decide_eq_true (by have := HLL.out; omega)]; rfl)
    go_enter Tryz.func25, Tryz.ntmps25
    go_wp2_with fail
    refine HC.out.mono ?_
    rintro e w' ⟨rfl, rfl⟩
    go_wp2
    go_ret
    exact ⟨by rw [HV.out]; rfl, rfl⟩
  · have HB : Hid (wordB n word = false) := Lib.hid (by unfold wordB; rw [decide_eq_false (by have := HLL.out; omega)]; rfl)
    go_enter Tryz.func25, Tryz.ntmps25
    go_wp2
    go_ret
    exact ⟨by rw [HB.out]; rfl, rfl⟩

set_option maxHeartbeats 1000000 in
/-- the reference's Offer -/
theorem ROffer_any {w : World} {a : Option Addr} {n c : Nat} {b : Option Addr} {k d : Nat} {m : Syst} (A : SysArg w a n c b k d m) (hv : sysB m = true) (x : Nat) (hx : x < m.states.length) :
    Calls Tryz.prog 24 #[.agg #[.slice a n c, .slice b k d], .int .i64 x] w fun e w' => e = .returned (.int .i64 (offN (stAt m.states x))) ∧ Below w.heap.size w w' := by
  have HV := Lib.hid hv
  have HX := Lib.hid hx
  have hb0 := (Below.refl w.heap.size w).alloc (Nat.le_refl _) (.cells #[.slice a n c, .slice b k d] 25)
  obtain ⟨bb, off, rfl, ai, ni, ci, c0, hE⟩ := A.rows x hx
  have c1 := cell_new c0 (.cells #[.slice a n c, .slice (some ⟨bb, off, none⟩) k d] 25)
  have HE := Lib.hid hE
  have hk : k ≤ 140737488355328 := A.big
  have hni : ni ≤ 140737488355328 := by have := hE.cap; have := hE.big; omega
  have hx0 : (0 : Int) ≤ (x : Int) := by omega
  have hx1 : (x : Int) < (k : Int) := by have := A.len; omega
  have hna : m.acts.length ≤ 8 := ((actsB_iff m.acts).1 ((sysB_iff m).1 hv).1).1
  have h8 : Hid (∀ t, t < (stAt m.states x).length → 0 ≤ (edAt (stAt m.states x) t).1 ∧ (edAt (stAt m.states x) t).1 < 8) := Lib.hid fun t ht => by
    have hok : okE m.acts.length m.states.length (edAt (stAt m.states x) t) = true := edge_in (((sysB_iff m).1 hv).2.2.2.1 x hx) (by unfold edAt; rw [List.getD_eq_getElem?_getD, List.getElem?_eq_getElem ht]; exact List.getElem_mem ht)
    have := (okE_iff _ _ _).1 hok
    omega
  have HB0 := Lib.hid hb0
  clear A hv hx hb0 hE c0
  go_enter Tryz.func24, Tryz.ntmps24
  go_wp2
  go_loopw [5, 7, 14] (fun s _ i wr => ∃ t q : Nat, t ≤ ni ∧ i = .int .i64 t ∧ s = .int .i64 q ∧ q < 256 ∧ Hid (q = offN ((stAt m.states x).take t)) ∧ Below w.heap.size w wr) (fun _ _ i _ => ni - (intOf i).toNat)
  case atStart => exact ⟨0, 0, Nat.zero_le _, rfl, rfl, by decide, Lib.hid rfl, HB0.out⟩
  case round =>
    obtain ⟨t, q, ht, rfl, rfl, hq, hqb, hb⟩ := hrel
    by_cases hlt : t < ni
    · obtain ⟨be, oe, rfl, d1, d2⟩ := (HE.out.cells.below hb) t (by have := HE.out.len; omega)
      obtain ⟨h1, h2⟩ := h8.out t (by have := HE.out.len; omega)
      obtain ⟨u, hu⟩ := Int.eq_ofNat_of_zero_le h1
      obtain ⟨x2, hx2⟩ : ∃ x2, x2 = (edAt (stAt m.states x) t).2 := ⟨_, rfl⟩
      rw [← hx2] at d2
      rw [hu] at d1 h2
      obtain ⟨R, HR⟩ : ∃ R : Nat, Hid (R = q ||| 2 ^ u) := ⟨_, Lib.hid rfl⟩
      have hR : R < 256 := by rw [HR.out]; exact Nat.or_lt_two_pow (n := 8) hq (Nat.pow_lt_pow_right (by decide) (by omega))
      have HT : Hid (R = offN ((stAt m.states x).take (t + 1))) := Lib.hid (by rw [offN_take (by have := HE.out.len; omega), hu, ← hqb.out, HR.out]; rfl)
      have HO : Hid (bits .or .i64 (q : Int) (wrap64 (2 ^ u)) = (R : Int)) := Lib.hid (by
        have h2 := pow_le u (by omega)
        have h3 : ((2 ^ u : Nat) : Int) = (2 : Int) ^ u := by norm_cast
        have h4 : 2 ^ u < 256 := Nat.pow_lt_pow_right (n := 8) (by decide) (by omega)
        rw [IntWalk.wrap64_in _ ⟨by omega, by omega⟩, ← h3, HR.out]
        exact i64_or_nat q _ (by omega) (by omega))
      have HB := Lib.hid (hb.alloc hb.size (.cells #[.int .i64 u, .int .i64 x2] 81))
      clear hb h1 hu hx2
      go_wp2
      rw [HO.out]
      go_wp2
      go_roundw
      case rel => exact ⟨t + 1, R, by omega, by go_num, rfl, hR, HT, HB.out⟩
      case measure => simp [intOf]; omega
    · have HF : Hid (q = offN (stAt m.states x)) := Lib.hid (by
        have := hqb.out
        rw [List.take_of_length_le (by have := HE.out.len; omega)] at this
        exact this)
      have HB := Lib.hid hb
      clear hb
      go_wp2
      go_ret
      exact ⟨by rw [HF.out]; rfl, HB.out⟩
end Go.Proofs.YtlnncklanabbdaaGreatDoor
