/- NetBound's walk. -/
import Derived.Test.YtbcgikkdhfbphaaAli
namespace Go.Proofs.Ytbcgikkdhfbphaa
open Go.RowKit Go.Maps
theorem i64_mask (z : Int) (m : Nat) (hm : m < 9223372036854775808) : ∃ k : Nat, k ≤ m ∧ bits .and .i64 z (m : Int) = (k : Int) := by
  refine ⟨(BitVec.ofInt 64 z &&& BitVec.ofInt 64 (m : Int)).toNat, ?_, ?_⟩
  · rw [BitVec.toNat_and, ofInt_u64 m (by omega)]; exact Nat.and_le_right
  · show IntKind.i64.wrap ((BitVec.ofInt 64 z &&& BitVec.ofInt 64 (m : Int)).toNat : Int) = _
    have h : (BitVec.ofInt 64 z &&& BitVec.ofInt 64 (m : Int)).toNat ≤ m := by
      rw [BitVec.toNat_and, ofInt_u64 m (by omega)]; exact Nat.and_le_right
    exact wrapI (by omega) (by omega)
theorem Try.info5 : (Try.prog.info? 5).map (fun i => (i.zero, i.size, i.bytes)) = some (some (.int .u8 0), 1, 1) := by kernel_rfl
def zc (k : Nat) : Array Value := madeCells #[.int .u8 0] k
theorem zc_eq (k : Nat) : zc k = ((List.replicate k (0 : Int)).map (Value.int .u8)).toArray := by
  unfold zc madeCells
  apply Array.ext
  · simp
  · intro i h1 h2
    simp [Nat.mod_one]
theorem addr_add0 (b j : Nat) : (⟨b, 0, none⟩ : Addr).add j = ⟨b, j, none⟩ := by unfold Addr.add; split <;> simp_all
theorem push_zeros : ∀ (k : Nat) (l : List UInt8), (List.replicate k (0 : Int)).foldl (fun (r : ByteArray) n => r.push (UInt8.ofNat n.toNat)) ⟨l.toArray⟩ = ⟨(l ++ List.replicate k (0 : UInt8)).toArray⟩ := by
  intro k
  induction k with
  | zero => intro l; simp
  | succ k ih =>
    intro l
    rw [List.replicate_succ, List.foldl_cons]
    have e : (ByteArray.mk l.toArray).push (UInt8.ofNat (0 : Int).toNat) = ⟨(l ++ [0]).toArray⟩ := by
      show ByteArray.mk (l.toArray.push 0) = _
      simp
    rw [e, ih, List.append_assoc]; rfl
def zt (k : Nat) : ByteArray := ⟨(List.replicate k (0 : UInt8)).toArray⟩
theorem zt_size (k : Nat) : (zt k).size = k := by show (List.replicate k (0 : UInt8)).toArray.size = k; simp
theorem conv_zeros (b k : Nat) (W : World) (h : W.heap[b]? = some (.cells (zc k) 5)) :
    (convert 40 9 (.slice (some ⟨b, 0, none⟩) k k)).run Try.prog W = .ok (.string (zt k)) W := by
  refine (run_convert_bytes_string _ 40 9 5 _ _ _ Try.underlying40 Try.underlying5 Try.underlying9).trans ?_
  rw [run_bytesToString (ns := List.replicate k (0 : Int))]
  · congr 2
    exact push_zeros k []
  · have h' := run_loadCells_list (P := Try.prog) W ⟨b, 0, none⟩ (zc k).toList (fun j v hv => by
      rw [addr_add0, cell_of_row _ _ j _ _ _ h]
      simpa using hv)
    rw [show (zc k).toList.length = k by rw [zc_eq]; simp] at h'
    rw [h', zc_eq]
/-! ### plain -/
def b2 (L : List Pk) : PN := ⟨nm 1 2 2, L⟩
theorem b2_may (L : List Pk) {k : Int} (h1 : 1 ≤ k) (h2 : k ≤ 2) : (b2 L).may k := ⟨h1, by show k ≤ ((nm 1 2 2).length : Int); rw [nm_len]; exact h2⟩
theorem b2_send (L : List Pk) (a b : Int) (t : ByteArray) (ha : (b2 L).may a) (hb : (b2 L).may b) (ht : t.size ≤ 4194304) (hL : L.length < 16384) : (b2 L).sendE a b t = 0 ∧ (b2 L).sendS a b t = b2 (L ++ [(a, b, t)]) := by
  have h : (b2 L).sendE a b t = 0 := by
    unfold PN.sendE
    rw [if_pos (mayBB.2 ⟨ha, hb⟩), if_neg (by omega), if_pos (show (b2 L).L.length < 16384 from hL)]
  exact ⟨h, by unfold PN.sendS; rw [if_pos h]; rfl⟩
theorem b2_long (L : List Pk) (a b : Int) (t : ByteArray) (ha : (b2 L).may a) (hb : (b2 L).may b) (ht : 4194304 < t.size) : (b2 L).sendE a b t = 4 ∧ (b2 L).sendS a b t = b2 L := by
  have h : (b2 L).sendE a b t = 4 := by
    unfold PN.sendE
    rw [if_pos (mayBB.2 ⟨ha, hb⟩), if_pos ht]
  exact ⟨h, by unfold PN.sendS; rw [if_neg (by rw [h]; decide)]⟩
theorem b2_full (L : List Pk) (a b : Int) (t : ByteArray) (ha : (b2 L).may a) (hb : (b2 L).may b) (ht : t.size ≤ 4194304) (hL : L.length = 16384) : (b2 L).sendE a b t = 6 ∧ (b2 L).sendS a b t = b2 L := by
  have h : (b2 L).sendE a b t = 6 := by
    unfold PN.sendE
    rw [if_pos (mayBB.2 ⟨ha, hb⟩), if_neg (by omega), if_neg (show ¬ (b2 L).L.length < 16384 by show ¬ L.length < 16384; omega)]
  exact ⟨h, by unfold PN.sendS; rw [if_neg (by rw [h]; decide)]⟩
theorem b2_peek (L : List Pk) (h : qs L 1 1 ≠ []) : ((b2 L).peek 1 1 0).2 = 0 := by
  have hl : 0 < (qs (b2 L).L 1 1).length := List.length_pos_iff.2 h
  have := peek_yes (s := b2 L) (a := 1) (b := 1) ⟨b2_may L (by omega) (by omega), b2_may L (by omega) (by omega)⟩ (k := 0) hl
  rw [show ((0 : Nat) : Int) = 0 from rfl] at this
  rw [this]
/-- What stands behind k sends. -/
def Bd (w : World) (p k : Nat) (W : World) : Prop := ∃ L, Own k w W p (b2 L) ∧ L.length = k ∧ (0 < k → qs L 1 1 ≠ [])
theorem Bd.next {w W : World} {p k : Nat} (h : Bd w p k W) (hk : k < 16384) (r : Nat) (hr : r ≤ 1) (h0 : k = 0 → r = 0) : Calls Try.prog 15 #[.pointer (some ⟨p, 0, none⟩), .int .i64 1, .int .i64 (1 + (r : Int)), .string ⟨#[]⟩] W fun e w' => e = .returned (.int .i64 0) ∧ Bd w p (k + 1) w' := by
  obtain ⟨L, h1, h2, h3⟩ := h
  obtain ⟨e1, e2⟩ := b2_send L 1 (1 + (r : Int)) ⟨#[]⟩ (b2_may L (by omega) (by omega)) (b2_may L (by omega) (by omega)) (Nat.zero_le _) (by omega)
  have := h1.call (fun M h => send_any h (by omega) 1 (1 + (r : Int)) ⟨#[]⟩ (Nat.zero_le _))
  rw [e1, e2] at this
  refine this.mono (fun e w' ⟨he, ho⟩ => ⟨he, L ++ [(1, 1 + (r : Int), ⟨#[]⟩)], ho, by simp [h2], fun _ => ?_⟩)
  by_cases hz : k = 0
  · rw [qs_app, h0 hz]
    simp [qs]
  · rw [qs_app]
    have := h3 (by omega)
    simp [this]
/-- And at the end. -/
def Be (w : World) (p n : Nat) (W : World) : Prop := ∃ L, Own (16384 + n) w W p (b2 L) ∧ L.length = 16384 ∧ qs L 1 1 ≠ []
def Bf (w : World) (p : Nat) (W : World) : Prop := ∃ L, Own (16384 + 3) w W p (b2 L) ∧ L.length = 16383
theorem Be.send {w W : World} {p : Nat} (h : Be w p 0 W) : Calls Try.prog 15 #[.pointer (some ⟨p, 0, none⟩), .int .i64 2, .int .i64 1, .string ⟨#[120]⟩] W fun e w' => e = .returned (.int .i64 6) ∧ Be w p 1 w' := by
  obtain ⟨L, h1, h2, h3⟩ := h
  obtain ⟨e1, e2⟩ := b2_full L 2 1 ⟨#[120]⟩ (b2_may L (by omega) (by omega)) (b2_may L (by omega) (by omega)) (by show 1 ≤ _; omega) h2
  have := h1.call (fun M h => send_any h (by omega) 2 1 ⟨#[120]⟩ (by show 1 ≤ _; omega))
  rw [e1, e2] at this
  exact this.mono (fun e w' ⟨he, ho⟩ => ⟨he, L, ho, h2, h3⟩)
theorem Be.doub {w W : World} {p : Nat} (h : Be w p 1 W) : Calls Try.prog 16 #[.pointer (some ⟨p, 0, none⟩), .int .i64 1, .int .i64 1, .int .i64 0] W fun e w' => e = .returned (.int .i64 6) ∧ Be w p 2 w' := by
  obtain ⟨L, h1, h2, h3⟩ := h
  have e1 : (b2 L).doubE 1 1 0 = 6 := by unfold PN.doubE; rw [if_pos (b2_peek L h3), if_neg (show ¬ (b2 L).L.length < 16384 by show ¬ L.length < 16384; omega)]
  have e2 : (b2 L).doubS 1 1 0 = b2 L := by unfold PN.doubS; rw [if_pos (b2_peek L h3), if_neg (show ¬ (b2 L).L.length < 16384 by show ¬ L.length < 16384; omega)]
  have := h1.call (fun M h => doub_any h (by omega) 1 1 0)
  rw [e1, e2] at this
  exact this.mono (fun e w' ⟨he, ho⟩ => ⟨he, L, ho, h2, h3⟩)
theorem Be.drop {w W : World} {p : Nat} (h : Be w p 2 W) : Calls Try.prog 17 #[.pointer (some ⟨p, 0, none⟩), .int .i64 1, .int .i64 1, .int .i64 0] W fun e w' => e = .returned (.int .i64 0) ∧ Bf w p w' := by
  obtain ⟨L, h1, h2, h3⟩ := h
  have e2 : (b2 L).dropS 1 1 0 = b2 (rem L 1 1 0) := by unfold PN.dropS; rw [if_pos (b2_peek L h3)]; rfl
  have := h1.call (fun M h => drop_any h (by omega) 1 1 0)
  rw [b2_peek L h3, e2] at this
  refine this.mono (fun e w' ⟨he, ho⟩ => ⟨he, _, ho, ?_⟩)
  have := rem_len L 1 1 0 (List.length_pos_iff.2 h3)
  omega
theorem Bf.send {w W : World} {p : Nat} (h : Bf w p W) : Calls Try.prog 15 #[.pointer (some ⟨p, 0, none⟩), .int .i64 2, .int .i64 1, .string ⟨#[120]⟩] W fun e w' => e = .returned (.int .i64 0) ∧ Bel w w' := by
  obtain ⟨L, h1, h2⟩ := h
  obtain ⟨e1, e2⟩ := b2_send L 2 1 ⟨#[120]⟩ (b2_may L (by omega) (by omega)) (b2_may L (by omega) (by omega)) (by show 1 ≤ _; omega) (by omega)
  have := h1.call (fun M h => send_any h (by omega) 2 1 ⟨#[120]⟩ (by show 1 ≤ _; omega))
  rw [e1, e2] at this
  exact this.mono (fun e w' ⟨he, ho⟩ => ⟨he, ho.is⟩)
theorem b2_any {w W : World} {p : Nat} {t : ByteArray} (h : Own 0 w W p (b2 [])) (ht : t.size ≤ 1000000000) : Calls Try.prog 15 #[.pointer (some ⟨p, 0, none⟩), .int .i64 1, .int .i64 2, .string t] W fun e w' => e = .returned (.int .i64 (if t.size ≤ 4194304 then 0 else 4)) ∧ Bel w w' := by
  by_cases hs : t.size ≤ 4194304
  · obtain ⟨e1, e2⟩ := b2_send [] 1 2 t (b2_may _ (by omega) (by omega)) (b2_may _ (by omega) (by omega)) hs (by simp)
    have := h.call (fun M h => send_any h (by omega) 1 2 t (by omega))
    rw [e1, e2] at this
    rw [if_pos hs]
    exact this.mono (fun e w' ⟨he, ho⟩ => ⟨he, ho.is⟩)
  · obtain ⟨e1, e2⟩ := b2_long [] 1 2 t (b2_may _ (by omega) (by omega)) (b2_may _ (by omega) (by omega)) (by omega)
    have := h.call (fun M h => send_any h (by omega) 1 2 t (by omega))
    rw [e1, e2] at this
    rw [if_neg hs]
    exact this.mono (fun e w' ⟨he, ho⟩ => ⟨he, ho.is⟩)
set_option maxRecDepth 100000 in
set_option maxHeartbeats 2000000 in
theorem bound_law (more : Int) (long : Bool) (w : World) : Calls Try.prog 4 #[.int .i64 more, .bool long] w fun e w' => e = .returned (.bool true) ∧ Bel w w' := by
  cases long with
  | true =>
    obtain ⟨k, hk, hbit⟩ := i64_mask more 3 (by omega)
    rw [show ((3 : Nat) : Int) = 3 from rfl] at hbit
    obtain ⟨n, hn⟩ : ∃ n : Nat, n = 4194303 + k := ⟨_, rfl⟩
    have hw1 : IntKind.i64.wrap (4194304 + (k : Int)) = 4194304 + (k : Int) := wrapI (by omega) (by omega)
    have hw2 : IntKind.i64.wrap (4194304 + (k : Int) - 1) = (n : Int) := by rw [show 4194304 + (k : Int) - 1 = (n : Int) by omega]; exact wrapI (by omega) (by omega)
    have hn1 : n ≤ 4194306 := by omega
    have hmk := run_make_row' (P := Try.prog) 40 5 (.int .u8 0) 1 Try.underlying40 Try.info5 rfl .i64 .i64 n (by omega) (by omega)
    rw [show madeCells #[.int .u8 0] n = zc n from rfl] at hmk
    clear hn hk
    go_enter Try.func4, Try.ntmps4
    go_wp2_with fail
    refine (new_own 1 2 (by omega) (by omega) w w (Bel.refl _)).mono ?_
    rintro e w1 ⟨p, rfl, ho⟩
    have H1 : Hid (Own 0 w w1 p (b2 [])) := hide ho
    have hcv := conv_zeros w1.heap.size n (w1.alloc (.cells (zc n) 5)) (at_new w1 _)
    have HS := hide (b2_any (t := zt n) ((unhide H1).bel ((Bel.refl _).alloc (.cells (zc n) 5))) (by rw [zt_size]; omega))
    rw [zt_size] at HS
    clear ho
    by_cases hs : n ≤ 4194304
    · rw [if_pos hs] at HS
      have hs' : decide ((n : Int) ≤ 4194304) = true := decide_eq_true (by omega)
      go_wp2_with (first
        | (go_at_call 15; refine (unhide HS).mono ?_; rintro e w2 ⟨rfl, hb2⟩; have HB2 := hide hb2; clear hb2)
        | (go_at_call 10; refine (alive_any _).mono ?_; rintro e w3 ⟨rfl, hb3⟩; have HB3 := hide ((unhide HB2).trans hb3); clear hb3))
      go_ret
      exact ⟨rfl, unhide HB3⟩
    · rw [if_neg hs] at HS
      have hs' : decide ((n : Int) ≤ 4194304) = false := decide_eq_false (by omega)
      go_wp2_with (first
        | (go_at_call 15; refine (unhide HS).mono ?_; rintro e w2 ⟨rfl, hb2⟩; have HB2 := hide hb2; clear hb2)
        | (go_at_call 10; refine (alive_any _).mono ?_; rintro e w3 ⟨rfl, hb3⟩; have HB3 := hide ((unhide HB2).trans hb3); clear hb3))
      go_ret
      exact ⟨rfl, unhide HB3⟩
  | false =>
    go_enter Try.func4, Try.ntmps4
    go_wp2_with fail
    refine (new_own 1 2 (by omega) (by omega) w w (Bel.refl _)).mono ?_
    rintro e w1 ⟨p, rfl, ho⟩
    have H1 : Hid (Bd w p 0 w1) := hide ⟨[], ho, rfl, fun h => absurd h (by omega)⟩
    clear ho
    go_wp2_with fail
    go_loopw [9] (fun vi wr => ∃ k : Nat, k ≤ 16384 ∧ vi = .int .i64 k ∧ Hid (Bd w p k wr)) (fun vi _ => 16384 - (intOf vi).toNat)
    case atStart => exact ⟨0, Nat.zero_le _, rfl, H1⟩
    case round =>
      obtain ⟨k, hk, rfl, HO⟩ := hrel
      by_cases hlt : k < 16384
      · obtain ⟨r, hr, hbit⟩ := i64_mask (k : Int) 1 (by omega)
        rw [show ((1 : Nat) : Int) = 1 from rfl] at hbit
        have h0 : k = 0 → r = 0 := fun e => by
          subst e
          have : bits .and .i64 ((0 : Nat) : Int) 1 = 0 := by kernel_rfl
          rw [this] at hbit
          omega
        have HN := hide ((unhide HO).next hlt r hr h0)
        have hrw : IntKind.i64.wrap (1 + (r : Int)) = 1 + (r : Int) := wrapI (by omega) (by omega)
        have hkN : (k : Int) < 16384 := by omega
        clear h0 hr
        go_wp2_with (first
          | (go_at_call 15; refine (unhide HN).mono ?_; rintro e w2 ⟨rfl, hb2⟩; have HB2 := hide hb2; clear hb2))
        go_roundw
        case rel => exact ⟨k + 1, by omega, by go_num, HB2⟩
        case measure => simp [intOf]; omega
      · obtain rfl : k = 16384 := by omega
        have HE : Hid (Be w p 0 wr) := hide (by
          obtain ⟨L, q1, q2, q3⟩ := unhide HO
          exact ⟨L, q1, q2, q3 (by omega)⟩)
        clear hk hlt HO
        go_wp2_with fail
        refine (unhide HE).send.mono ?_
        rintro e w3 ⟨rfl, h3⟩
        have H3 := hide h3
        clear h3
        go_wp2_with (first
          | (go_at_call 16; refine (unhide H3).doub.mono ?_; rintro e w4 ⟨rfl, h4⟩; have H4 := hide h4; clear h4)
          | (go_at_call 17; refine (unhide H4).drop.mono ?_; rintro e w5 ⟨rfl, h5⟩; have H5 := hide h5; clear h5)
          | (go_at_call 15; refine (unhide H5).send.mono ?_; rintro e w6 ⟨rfl, h6⟩; have H6 := hide h6; clear h6)
          | (go_at_call 10; refine (alive_any _).mono ?_; rintro e w7 ⟨rfl, hb7⟩; have HB7 := hide ((unhide H6).trans hb7); clear hb7))
        go_ret
        exact ⟨rfl, unhide HB7⟩
end Go.Proofs.Ytbcgikkdhfbphaa
