/- What the program's and the document's Pred return, for every text; first and unless. -/
import Derived.Test.YtgghcfmpfneehaaGreatDoorValB
namespace Go.Proofs.YtgghcfmpfneehaaGreatDoor
open Go.RowKit
/-- A name may begin with c. -/
def ltB (c : UInt8) : Bool := decide (97 ≤ c.toNat ∧ c.toNat ≤ 122)
/-- c may stand in a name. -/
def nmB (c : UInt8) : Bool := decide ((97 ≤ c.toNat ∧ c.toNat ≤ 122) ∨ (48 ≤ c.toNat ∧ c.toNat ≤ 57) ∨ c.toNat = 95 ∨ c.toNat = 46)
def hdB (l : List UInt8) : Bool := match l with | [] => false | c :: _ => ltB c
/-- A predicate's name. -/
def isName (l : List UInt8) : Bool := decide (l.length ≤ 64) && (hdB l && l.all nmB)
def eP (s : ByteArray) : Int := if isName s.data.toList then 0 else 40
theorem eP_yes {s : ByteArray} (h : isName s.data.toList = true) : eP s = 0 := by simp [eP, h]
theorem eP_no {s : ByteArray} (h : isName s.data.toList = false) : eP s = 40 := by simp [eP, h]
theorem hd_at {s : ByteArray} (h : 0 < s.size) : hdB s.data.toList = ltB (s[0]) := by
  cases hl : s.data.toList with
  | nil => have : s.data.toList.length = 0 := by rw [hl]; rfl
           have h2 : s.data.toList.length = s.size := rfl
           omega
  | cons c r =>
    have : s[0] = c := by
      have h2 : s.data.toList[0]? = some c := by rw [hl]; rfl
      have h3 : s.data.toList[0]? = some (s[0]) := by simp [ByteArray.getElem_eq_getElem_data, h]
      rw [h3] at h2; exact Option.some.inj h2
    rw [this]; rfl
theorem nm_take (s : ByteArray) (k : Nat) (h : k < s.size) : (s.data.toList.take (k + 1)).all nmB = ((s.data.toList.take k).all nmB && nmB (s[k])) := by
  have : s.data.toList.take (k + 1) = s.data.toList.take k ++ [s[k]] := by
    rw [List.take_succ_eq_append_getElem (by simpa using h)]; simp [ByteArray.getElem_eq_getElem_data]
  rw [this]; simp
theorem all_false_of {l : List UInt8} {k : Nat} {p : UInt8 → Bool} (h : (l.take k).all p = false) : l.all p = false := by
  rw [← List.take_append_drop k l, List.all_append, h]; rfl
set_option maxRecDepth 100000 in
theorem letter_any (c : UInt8) (w : World) : Calls Tryz.prog 74 #[vb c] w fun e w' => e = .returned (.bool (ltB c)) ∧ w' = w := by
  have hc : c.toNat < 256 := c.toNat_lt
  unfold vb
  go_enter Tryz.func74, Tryz.ntmps74
  go_wp2_with fail
  all_goals go_ret
  all_goals
    refine ⟨?_, rfl⟩
    show Ending.returned (Value.bool _) = _
    rw [ltB]
    congr 2
    rw [Bool.eq_iff_iff]
    simp
    omega
set_option maxRecDepth 100000 in
theorem inName_any (c : UInt8) (w : World) : Calls Tryz.prog 75 #[vb c] w fun e w' => e = .returned (.bool (nmB c)) ∧ w' = w := by
  have hC := hide (fun W => letter_any c W)
  have hc : c.toNat < 256 := c.toNat_lt
  obtain ⟨L, hL⟩ : ∃ L, ltB c = L := ⟨_, rfl⟩
  rw [hL] at hC
  have HL := hide hL
  clear hL
  unfold vb at hC ⊢
  go_enter Tryz.func75, Tryz.ntmps75
  go_wp2_with (go_at_call 74; refine (hC.out _).mono ?_; rintro e w' ⟨rfl, rfl⟩)
  all_goals go_ret
  all_goals
    have h9 := HL.out
    refine ⟨?_, rfl⟩
    show Ending.returned (Value.bool _) = _
    rw [nmB]
    congr 2
    rw [Bool.eq_iff_iff]
    simp only [ltB] at h9
    simp_all
  all_goals omega
set_option maxRecDepth 100000 in
theorem pred_no0 (s : ByteArray) (hs : s.size = 0 ∨ 64 < s.size) (w : World) : Calls Tryz.prog 40 #[.string s] w fun e w' => e = .returned (.int .i64 40) ∧ w' = w := by
  rcases hs with hs | hs
  · have h1 : ((s.size : Int) == 0) = true := by simp [hs]
    clear hs
    go_enter Tryz.func40, Tryz.ntmps40
    go_wp2_with fail
    go_ret
    exact ⟨rfl, rfl⟩
  · have h1 : ((s.size : Int) == 0) = false := ne_beq (by omega)
    have h2 : (64 : Int) < (s.size : Int) := by omega
    clear hs
    go_enter Tryz.func40, Tryz.ntmps40
    go_wp2_with fail
    go_ret
    exact ⟨rfl, rfl⟩
set_option maxRecDepth 100000 in
theorem pred_any (s : ByteArray) (w : World) : Calls Tryz.prog 40 #[.string s] w fun e w' => e = .returned (.int .i64 (eP s)) ∧ w' = w := by
  by_cases hz : s.size = 0
  · rw [eP_no]
    · exact pred_no0 s (Or.inl hz) w
    · cases hl : s.data.toList with
      | nil => rfl
      | cons c r => have h2 : s.data.toList.length = s.size := rfl
                    rw [hl] at h2; simp at h2; omega
  by_cases hb : 64 < s.size
  · rw [eP_no]
    · exact pred_no0 s (Or.inr hb) w
    · have h2 : s.data.toList.length = s.size := rfl
      have h3 : ¬ s.data.toList.length ≤ 64 := by omega
      unfold isName
      rw [decide_eq_false h3]; rfl
  have h0 : 0 < s.size := by omega
  have hlen : decide (s.data.toList.length ≤ 64) = true := decide_eq_true (show s.size ≤ 64 by omega)
  have hhd := hd_at h0
  have hC := hide (fun W => letter_any (s[0]) W)
  have hN := hide (fun (c : UInt8) W => inName_any c W)
  unfold vb at hC hN
  have h1 : ((s.size : Int) == 0) = false := ne_beq (by omega)
  have h2 : ¬ (64 : Int) < (s.size : Int) := by omega
  cases hL : ltB (s[0]) with
  | false =>
    rw [eP_no (by unfold isName; rw [hhd, hL]; simp)]
    rw [hL] at hC
    clear hhd hL hlen hz
    go_enter Tryz.func40, Tryz.ntmps40
    go_wp2_with (go_at_call 74; refine (hC.out _).mono ?_; rintro e w' ⟨rfl, rfl⟩)
    go_ret
    exact ⟨rfl, rfl⟩
  | true =>
    have HE := hide (show isName s.data.toList = s.data.toList.all nmB by unfold isName; rw [hhd, hL, hlen]; rfl)
    rw [hL] at hC
    clear hhd hL hlen
    go_enter Tryz.func40, Tryz.ntmps40
    go_wp2_with (go_at_call 74; refine (hC.out _).mono ?_; rintro e w' ⟨rfl, rfl⟩)
    go_loop [3, 20] (fun _ i => ∃ k : Nat, k ≤ s.size ∧ i = .int .i64 k ∧ Hid ((s.data.toList.take k).all nmB = true)) (fun _ i => s.size - (intOf i).toNat)
    case atStart => exact ⟨0, Nat.zero_le _, rfl, hide rfl⟩
    case round =>
      obtain ⟨k, hk, rfl, Ha⟩ := hrel
      by_cases hlt : k < s.size
      · have HT := hide (nm_take s k hlt)
        have hN2 := hN.out (s[k])
        obtain ⟨N, hNN⟩ : ∃ N, nmB (s[k]) = N := ⟨_, rfl⟩
        rw [hNN] at hN2
        have HNN := hide hNN
        have HN2 := hide hN2
        clear hNN hN2
        cases N with
        | true =>
          go_wp2_with (go_at_call 75; refine (HN2.out _).mono ?_; rintro e w' ⟨rfl, rfl⟩)
          go_round
          case rel => exact ⟨k + 1, by omega, by go_num, hide (by rw [HT.out, Ha.out, HNN.out]; rfl)⟩
          case measure => simp [intOf]; omega
        | false =>
          go_wp2_with (go_at_call 75; refine (HN2.out _).mono ?_; rintro e w' ⟨rfl, rfl⟩)
          go_ret
          rw [eP_no (by rw [HE.out]; exact all_false_of (k := k + 1) (by rw [HT.out, HNN.out]; simp))]
          exact ⟨rfl, rfl⟩
      · go_wp2_with fail
        go_ret
        rw [eP_yes (by rw [HE.out]; have h := Ha.out; rw [List.take_of_length_le (by simp; omega)] at h; exact h)]
        exact ⟨rfl, rfl⟩
end Go.Proofs.YtgghcfmpfneehaaGreatDoor
