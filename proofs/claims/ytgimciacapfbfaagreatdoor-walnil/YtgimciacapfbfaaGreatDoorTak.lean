/- A file's frames are taken. -/
import Derived.Test.YtgimciacapfbfaaGreatDoorNum
namespace Go.Proofs.YtgimciacapfbfaaGreatDoor
open Go.RowKit Go.Maps Go.WideMaps
theorem rFrame_ok (s : ByteArray) (h : (rFrame s).2.2 = 0) : 8 + (rFrame s).1.size + (rFrame s).2.1.size = s.size := by
  unfold rFrame at h ⊢
  split at h
  · simp at h
  · rename_i h8
    rw [if_neg h8]
    split at h
    · simp at h
    · rename_i hl
      rw [if_neg hl]
      split at h
      · simp at h
      · rename_i hs
        rw [if_neg hs]
        split at h
        · simp at h
        · rename_i hb
          rw [if_neg hb]
          simp
          omega
/-- The frames at the front, at most k, with their ends (t: the bytes of all); and what is left. -/
def tkr : Nat → Nat → List UInt8 → List (List UInt8 × Nat) × List UInt8
  | 0, _, l => ([], l)
  | k + 1, t, l => if (rFrame ⟨l.toArray⟩).2.2 ≠ 0 then ([], l) else (((rFrame ⟨l.toArray⟩).1.data.toList, t - (rFrame ⟨l.toArray⟩).2.1.size) :: (tkr k t (rFrame ⟨l.toArray⟩).2.1.data.toList).1, (tkr k t (rFrame ⟨l.toArray⟩).2.1.data.toList).2)
theorem tkr_le : ∀ (k t : Nat) (l : List UInt8), (tkr k t l).2.length ≤ l.length ∧ (tkr k t l).1.length ≤ k
  | 0, _, _ => ⟨Nat.le_refl _, Nat.le_refl _⟩
  | k + 1, t, l => by
    unfold tkr
    by_cases h : (rFrame ⟨l.toArray⟩).2.2 ≠ 0
    · rw [if_pos h]; exact ⟨Nat.le_refl _, by simp⟩
    · rw [if_neg h]
      have h1 := rFrame_ok _ (Decidable.not_not.1 h)
      have h2 := tkr_le k t (rFrame ⟨l.toArray⟩).2.1.data.toList
      have h3 : (⟨l.toArray⟩ : ByteArray).size = l.length := by show l.toArray.size = _; simp
      have h4 : (rFrame ⟨l.toArray⟩).2.1.data.toList.length = (rFrame ⟨l.toArray⟩).2.1.size := by simp
      exact ⟨by show (tkr _ _ _).2.length ≤ _; omega, by simp; omega⟩
/-- A number among the wal's cells is changed. -/
theorem wa_first {w0 W : World} {C : Nat} {G : Nat → Prop} {q p : Nat} {x : PW} {d : PD} (h : Wa w0 C G W q p x d) (n : Nat) : Wa w0 C G (W.setCell ⟨q, 2, none⟩ (.int .i64 n)) q p ⟨x.nm, n, x.last, x.rs⟩ d ∧ Kp G W (W.setCell ⟨q, 2, none⟩ (.int .i64 n)) := by
  obtain ⟨v, M, B, h1, h2, h3⟩ := h.ex
  refine wa_turn h1 h2 h3 h.lt h.g0 h.bel ((Ch.refl _ W).set (Or.inl (Or.inl rfl)) _) ⟨row_set h1.row, row_at h1.own (fun k hk => Below.heap_setCell _ _ _ _ (h3.av k hk).2.2.2)⟩ (fun k hk => Or.inl hk)
theorem wa_last {w0 W : World} {C : Nat} {G : Nat → Prop} {q p : Nat} {x : PW} {d : PD} (h : Wa w0 C G W q p x d) (n : Nat) : Wa w0 C G (W.setCell ⟨q, 3, none⟩ (.int .i64 n)) q p ⟨x.nm, x.first, n, x.rs⟩ d ∧ Kp G W (W.setCell ⟨q, 3, none⟩ (.int .i64 n)) := by
  obtain ⟨v, M, B, h1, h2, h3⟩ := h.ex
  refine wa_turn h1 h2 h3 h.lt h.g0 h.bel ((Ch.refl _ W).set (Or.inl (Or.inl rfl)) _) ⟨row_set h1.row, row_at h1.own (fun k hk => Below.heap_setCell _ _ _ _ (h3.av k hk).2.2.2)⟩ (fun k hk => Or.inl hk)
theorem rec_fin {W w7 : World} {q p g cap : Nat} {v : Value} {x : PW} {e : List UInt8 × Nat} (h7 : w7.heap[q]? = some (.cells #[.pointer (some ⟨p, 0, none⟩), vS x.nm, .int .i64 x.first, .int .i64 x.last, v] 55)) (hc : Ch (fun i => i = q ∨ v.ownBlock = some i) W w7) (hown : w7.ownsRow 0 67 2 (.slice (some ⟨g, 0, none⟩) (x.rs.length + 1) cap) (x.rs.length + 1) (rcs x.rs ++ rcs [e])) (hgq : g ≠ q) :
    Wc (w7.setCell ⟨q, 4, none⟩ (.slice (some ⟨g, 0, none⟩) (x.rs.length + 1) cap)) q p (.slice (some ⟨g, 0, none⟩) (x.rs.length + 1) cap) ⟨x.nm, x.first, x.last, x.rs ++ [e]⟩ ∧ Ch (fun i => i = q ∨ v.ownBlock = some i) W (w7.setCell ⟨q, 4, none⟩ (.slice (some ⟨g, 0, none⟩) (x.rs.length + 1) cap)) := by
  have r8 := row_set (p := 4) (v := .slice (some ⟨g, 0, none⟩) (x.rs.length + 1) cap) h7
  refine ⟨⟨r8, ?_⟩, hc.set (Or.inl (Or.inl rfl)) _⟩
  rw [rcs_app, List.length_append]
  refine row_at hown (fun k hk => ?_)
  have hk' : g = k := Option.some.inj hk
  rw [Below.heap_setCell _ _ _ _ (by show k ≠ q; omega)]
set_option maxRecDepth 100000 in
set_option maxHeartbeats 4000000 in
theorem take_any {w0 W : World} {C : Nat} {G : Nat → Prop} {q p : Nat} {x : PW} {d : PD} (h : Wa w0 C G W q p x d) (hi : x.rs.length ≤ 10000) (n : Nat) (l : List UInt8) (hl : l.length ≤ 1000000000) :
    Calls Tryz.prog 47 #[.pointer (some ⟨q, 0, none⟩), .int .i64 n, .string ⟨l.toArray⟩] W fun e w' => e = .returned (.int .i64 ((l.length - (tkr 32 l.length l).2.length : Nat) : Int)) ∧ Wa w0 C G w' q p ⟨x.nm, if x.last = 0 then n else x.first, n, x.rs ++ (tkr 32 l.length l).1⟩ d ∧ Kp G W w' := by
  obtain ⟨a, c, hr, _, _⟩ := h.see
  have H := hide h
  have c3 : W.cell? ⟨q, 3, none⟩ = some (.int .i64 (x.last : Nat)) := cell_of hr
  obtain ⟨W2, x2, H2, K2, hx2, hst⟩ : ∃ W2 x2, Hid (Wa w0 C G W2 q p x2 d) ∧ Hid (Kp G W W2) ∧ Hid (x2 = ⟨x.nm, if x.last = 0 then n else x.first, n, x.rs⟩) ∧ W2 = (if x.last = 0 then W.setCell ⟨q, 2, none⟩ (.int .i64 n) else W).setCell ⟨q, 3, none⟩ (.int .i64 n) := by
    by_cases h0 : x.last = 0
    · have k1 := wa_first h n
      have k2 := wa_last k1.1 n
      exact ⟨_, _, k2.1, k1.2.trans k2.2, by show _ = _; rw [if_pos h0], by rw [if_pos h0]⟩
    · have k2 := wa_last h n
      exact ⟨_, _, k2.1, k2.2, by show _ = _; rw [if_neg h0], by rw [if_neg h0]⟩
  have HR := hide hr
  have hz := hide (tkr_le 32 l.length l)
  clear h hr
  have hx2r : x2.rs.length ≤ 10000 := by rw [unhide hx2]; exact hi
  obtain ⟨i0, hi0, hz0, hz1, hz2⟩ := Tryz.i67
  by_cases h0 : x.last = 0
  case' pos =>
    rw [if_pos h0] at hst hx2
    have hq0 : (x.last : Int) = 0 := by omega
    have f2 := free_row (p := 2) (unhide HR)
    have r2 := row_set (p := 2) (v := .int .i64 (n : Int)) (unhide HR)
    have c3' : (W.setCell ⟨q, 2, none⟩ (.int .i64 (n : Int))).cell? ⟨q, 3, none⟩ = some (.int .i64 (x.last : Nat)) := cell_of r2
    have c2' : W.cell? ⟨q, 2, none⟩ = some (.int .i64 (x.first : Nat)) := cell_of (unhide HR)
    have f3 := free_row (p := 3) r2
    clear r2
    go_enter Tryz.func47, Tryz.ntmps47
    go_wp2_with fail
    rw [← hst]
    clear f2 c3' c2' f3
  case' neg =>
    rw [if_neg h0] at hst hx2
    have hq0 : ((x.last : Int) == 0) = false := by rw [beq_eq_false_iff_ne]; omega
    have f3 := free_row (p := 3) (unhide HR)
    go_enter Tryz.func47, Tryz.ntmps47
    go_wp2_with fail
    rw [← hst]
    clear f3
  all_goals
    clear hq0 c3 hst HR
    go_loopw [7, 8, 9, 10, 25] (fun vl _ _ _ vi wr => ∃ (k : Nat) (L : List UInt8) (R : List (List UInt8 × Nat)), k ≤ 32 ∧ vi = .int .i64 k ∧ vl = .string ⟨L.toArray⟩ ∧ R.length ≤ k ∧ L.length ≤ l.length ∧ Hid (Wa w0 C G wr q p ⟨x2.nm, x2.first, x2.last, x2.rs ++ R⟩ d ∧ Kp G W wr ∧ tkr 32 l.length l = (R ++ (tkr (32 - k) l.length L).1, (tkr (32 - k) l.length L).2))) (fun _ _ _ _ vi _ => 32 - (intOf vi).toNat)
    case atStart => exact ⟨0, l, [], by omega, rfl, rfl, Nat.le_refl _, Nat.le_refl _, by rw [List.append_nil]; exact unhide H2, unhide K2, rfl⟩
    case round =>
      obtain ⟨k, L, R, hk, rfl, rfl, hR, hL, HO⟩ := hrel
      by_cases hlt : k < 32
      · have hki : (k : Int) < 32 := by omega
        have h64 := hide (fun W => readFrame_any ⟨L.toArray⟩ (by show L.toArray.size ≤ _; simp; omega) W)
        by_cases he : (rFrame ⟨L.toArray⟩).2.2 ≠ 0
        · have hbr : Hid (tkr (32 - k) l.length L = ([], L)) := by
            show _ = _
            rw [show 32 - k = (31 - k) + 1 by omega, tkr, if_pos he]
          have he' : ((rFrame ⟨L.toArray⟩).2.2 == 0) = false := by rw [beq_eq_false_iff_ne]; exact he
          generalize rFrame ⟨L.toArray⟩ = r at h64 he'
          obtain ⟨r1, r2, r3⟩ := r
          simp only at h64 he'
          clear he
          go_wp2_with (go_at_call 64; refine ((unhide h64) _).mono ?_; rintro e w5 ⟨rfl, hb5⟩)
          go_ret
          obtain ⟨z1, z2, z3⟩ := unhide HO
          rw [unhide hbr, List.append_nil] at z3
          rw [z3]
          have z4 := z1.up hb5
          rw [unhide hx2] at z4
          exact ⟨by show Ending.returned (.int .i64 ((l.length : Int) - (L.length : Int))) = Ending.returned (.int .i64 ((l.length - L.length : Nat) : Int)); rw [Int.ofNat_sub hL], z4, z2.trans (z1.kp hb5)⟩
        · have he0 := Decidable.not_not.1 he
          have hok := rFrame_ok _ he0
          have hbr : Hid (tkr (32 - k) l.length L = (((rFrame ⟨L.toArray⟩).1.data.toList, l.length - (rFrame ⟨L.toArray⟩).2.1.size) :: (tkr (32 - (k + 1)) l.length (rFrame ⟨L.toArray⟩).2.1.data.toList).1, (tkr (32 - (k + 1)) l.length (rFrame ⟨L.toArray⟩).2.1.data.toList).2)) := by
            show _ = _
            rw [show 32 - k = (31 - k) + 1 by omega, tkr, if_neg he, show 32 - (k + 1) = 31 - k by omega]
          rw [show (⟨L.toArray⟩ : ByteArray).size = L.length by show L.toArray.size = _; simp] at hok
          generalize rFrame ⟨L.toArray⟩ = r at h64 he0 hbr hok
          obtain ⟨r1, r2, r3⟩ := r
          simp only at h64 he0 hbr hok
          subst he0
          obtain ⟨b2, rfl⟩ : ∃ b : List UInt8, r2 = ⟨b.toArray⟩ := ⟨r2.data.toList, rfl⟩
          obtain ⟨b1, rfl⟩ : ∃ b : List UInt8, r1 = ⟨b.toArray⟩ := ⟨r1.data.toList, rfl⟩
          have hs2 : (⟨b2.toArray⟩ : ByteArray).size = b2.length := rfl
          have hs1 : (⟨b1.toArray⟩ : ByteArray).size = b1.length := rfl
          rw [hs2, hs1] at hok
          rw [hs2, show (⟨b2.toArray⟩ : ByteArray).data.toList = b2 from rfl, show (⟨b1.toArray⟩ : ByteArray).data.toList = b1 from rfl] at hbr
          clear hs1 hs2
          have e1 : IntKind.i64.wrap ((l.length : Int) - (b2.length : Int)) = ((l.length - b2.length : Nat) : Int) := by rw [wrapI (by omega) (by omega)]; omega
          obtain ⟨x3, hx3⟩ : ∃ z, z = (⟨x2.nm, x2.first, x2.last, x2.rs ++ R⟩ : PW) := ⟨_, rfl⟩
          have HX3 := hide hx3
          have H3 : Hid (Wa w0 C G wr q p x3 d) := by
            show Wa w0 C G wr q p x3 d
            rw [hx3]; exact (unhide HO).1
          have hlen : x3.rs.length ≤ 10032 := by rw [hx3]; show (x2.rs ++ R).length ≤ _; rw [List.length_append]; omega
          clear hx3
          obtain ⟨v, M, B, hw, hdk, hap⟩ := (unhide H3).ex
          obtain ⟨a4, c4, rfl, hca, _⟩ := hw.see
          have HW := hide hw
          have HDK := hide hdk
          have HAP := hide hap
          have s4 : ∀ W, Bel wr W → W.cell? ⟨q, 4, none⟩ = some (.slice a4 x3.rs.length c4) := fun W hb => cell_of (hb.row hw.row)
          have S4 := hide s4
          clear hw hdk hap he s4
          go_wp2_with (first
            | (go_at_call 64; refine ((unhide h64) _).mono ?_; rintro e w5 ⟨rfl, hb5⟩; have s5 := (unhide S4) w5 hb5)
            | (at_builtin; refine wpList_append_lies _ rfl _ _ 53 rfl 0 67 i0 (.agg #[.string ⟨#[]⟩, .int .i64 0]) 2 24 Tryz.underlying53 hi0 hz0 hz1 hz2 rfl (by decide) (.slice a4 x3.rs.length c4) x3.rs.length (rcs x3.rs) rfl ((row_at (unhide HW).own (fun k hk => hb5.block k ((unhide HW).own.lt k hk).2)).alloc _) ⟨w5.heap.size, 0, none⟩ 1 1 (rcs [(b1, l.length - b2.length)]) rfl rfl (World.news_of_block (at_new w5 _)) (rcs_one _) (by decide) (by unfold maxLen; omega) (by omega) (Nat.zero_le _) (w5.heap.size + 1) (by simp) ?_; intro g cp w7 hown hgrow hat hlt; obtain ⟨hr7, s7, f7, hc7⟩ := add_mid (unhide HW) (fun e => ((unhide HAP).av q e).2.2.2 rfl) hb5 hgrow; go_frame))
          have hgq : g ≠ q := by
            rcases hat with h | h
            · exact ((unhide HAP).av g h).2.2.2
            · have h1 := lt_of_some (unhide HW).row
              have h2 := hb5.size
              omega
          have hfin := rec_fin (unhide hr7) (unhide hc7) hown hgq
          have hvv : ∀ k, (Value.slice (some ⟨g, 0, none⟩) (x3.rs.length + 1) cp).ownBlock = some k → (Value.slice a4 x3.rs.length c4).ownBlock = some k ∨ wr.heap.size ≤ k := fun k hk => by
            have hk' : g = k := Option.some.inj hk
            subst hk'
            rcases hat with h | h
            · exact Or.inl h
            · have h2 := hb5.size
              exact Or.inr (by omega)
          have HT := hide (wa_turn (unhide HW) (unhide HDK) (unhide HAP) (unhide H3).lt (unhide H3).g0 (unhide H3).bel hfin.2 hfin.1 hvv)
          clear hfin hvv hown hgrow hat
          go_roundw
          case rel =>
            refine ⟨k + 1, b2, R ++ [(b1, l.length - b2.length)], by omega, by go_num, rfl, by simp; omega, by omega, ?_⟩
            have ht := unhide HT
            have hpw : (⟨x3.nm, x3.first, x3.last, x3.rs ++ [(b1, l.length - b2.length)]⟩ : PW) = ⟨x2.nm, x2.first, x2.last, x2.rs ++ (R ++ [(b1, l.length - b2.length)])⟩ := by rw [unhide HX3]; simp
            rw [hpw] at ht
            refine ⟨ht.1, (unhide HO).2.1.trans ht.2, ?_⟩
            rw [(unhide HO).2.2, unhide hbr]
            simp
          case measure => simp [intOf]; omega
      · have hki : ¬ (k : Int) < 32 := by omega
        have hbr : Hid (tkr (32 - k) l.length L = ([], L)) := by
          show _ = _
          rw [show 32 - k = 0 by omega, tkr]
        go_wp2_with fail
        go_ret
        obtain ⟨z1, z2, z3⟩ := unhide HO
        rw [unhide hbr, List.append_nil] at z3
        rw [z3]
        have z4 := z1
        rw [unhide hx2] at z4
        exact ⟨by show Ending.returned (.int .i64 ((l.length : Int) - (L.length : Int))) = Ending.returned (.int .i64 ((l.length - L.length : Nat) : Int)); rw [Int.ofNat_sub hL], z4, z2⟩
end Go.Proofs.YtgimciacapfbfaaGreatDoor
