/- The document's Waiting. -/
import Derived.Test.YtbcgikkdhfbphaaRfu
namespace Go.Proofs.Ytbcgikkdhfbphaa
open Go.RowKit Go.Maps
/-- The first links of a machine. -/
def rowq (a b : Nat) : List (Int × Int) := (List.range b).map fun (b : Nat) => ((a : Int) + 1, (b : Int) + 1)
/-- The links of the first machines. -/
def pre9 (N a : Nat) : List (Int × Int) := (List.range a).flatMap fun a => rowq a N
theorem pre9_all (N : Nat) : pre9 N N = allp N := rfl
theorem rowq_next (a b : Nat) : rowq a (b + 1) = rowq a b ++ [((a : Int) + 1, (b : Int) + 1)] := by simp [rowq, List.range_succ]
theorem pre9_next (N a : Nat) : pre9 N (a + 1) = pre9 N a ++ rowq a N := by simp [pre9, List.range_succ]
theorem rowq_len (a b : Nat) : (rowq a b).length = b := by simp [rowq]
theorem pre9_len (N a : Nat) : (pre9 N a).length = a * N := by
  induction a with
  | zero => simp [pre9]
  | succ a ih => rw [pre9_next, List.length_append, ih, rowq_len, Nat.add_mul]; omega
theorem qs_take (L : List Pk) (a b : Int) (k : Nat) (h : k < L.length) : qs (L.take (k + 1)) a b = qs (L.take k) a b ++ (if L[k].1 = a ∧ L[k].2.1 = b then [L[k].2.2] else []) := by
  rw [List.take_succ_eq_append_getElem h, qs_app]
  congr 1
set_option maxRecDepth 100000 in
set_option maxHeartbeats 4000000 in
theorem waitD {W : World} {q : Nat} {s : PN} {M : Nat → Prop} (h : Rf W q s M) : Calls Try.prog 40 #[.pointer (some ⟨q, 0, none⟩)] W fun e w' => ∃ v, e = .returned v ∧ Wt W v (wt s.ms.length s.L) w' := by
  obtain ⟨ad, g, cap, c1, hg, hR, hcap⟩ := h.list
  have c0 := h.n
  have hlen := h.len
  have hfew := h.few
  have HR := hide hR
  have HG := hide hg
  have HC := hide (And.intro c0 c1)
  clear h hR hg c0 c1
  generalize s.L = L at *
  generalize s.ms.length = N at *
  generalize hn : L.length = n at *
  have HN := hide hn
  clear hn
  go_enter Try.func40, Try.ntmps40
  go_wp2_with fail
  go_loopw [3, 4] (fun v va wr => ∃ a : Nat, a ≤ N ∧ va = .int .i64 ((a : Int) + 1) ∧ Hid (Wt W v (wpk L (pre9 N a)) wr)) (fun _ va _ => N + 1 - (intOf va).toNat)
  case atStart => exact ⟨0, Nat.zero_le _, rfl, hide ⟨El.O.nil _ _, Bel.refl _⟩⟩
  case round =>
    obtain ⟨a, ha, rfl, HO⟩ := hrel
    obtain ⟨ao, co, gq, hvo, _, _, _⟩ := (unhide HO).1.shape
    subst hvo
    have c0 := (unhide HO).2.cell (unhide HC).1
    by_cases haN : a < N
    · have haN' : (a : Int) + 1 ≤ N := by omega
      have HO2 : Hid (Wt W (.slice ao (wpk L (pre9 N a)).length co) (wpk L (pre9 N a ++ rowq a 0)) wr) := hide (by simpa [rowq] using unhide HO)
      generalize (wpk L (pre9 N a)).length = P at HO2 ⊢
      clear HO
      go_wp2_with fail
      go_loopw [3, 5] (fun v vb wr => ∃ b : Nat, b ≤ N ∧ vb = .int .i64 ((b : Int) + 1) ∧ Hid (Wt W v (wpk L (pre9 N a ++ rowq a b)) wr)) (fun _ vb _ => N + 1 - (intOf vb).toNat)
      case atStart => exact ⟨0, Nat.zero_le _, rfl, HO2⟩
      case round =>
        clear c0
        obtain ⟨b, hb, rfl, HB⟩ := hrel
        obtain ⟨ao, co, gq, hvo, _, _, _⟩ := (unhide HB).1.shape
        subst hvo
        have c0 := (unhide HB).2.cell (unhide HC).1
        by_cases hbN : b < N
        · have hbN' : (b : Int) + 1 ≤ N := by omega
          have hks : (wpk L (pre9 N a ++ rowq a b)).length ≤ 100000000 := by
            have h1 := wpk_len L (pre9 N a ++ rowq a b)
            rw [List.length_append, pre9_len, rowq_len] at h1
            have h2 : a * N + b ≤ 64 * 64 + 64 := by
              have := Nat.mul_le_mul (show a ≤ 64 by omega) (show N ≤ 64 by omega)
              omega
            have h3 := Nat.mul_le_mul h2 (show L.length ≤ 16384 by rw [unhide HN]; omega)
            omega
          have HKS := hide hks
          have HB2 : Hid (Wt W (.slice ao (wpk L (pre9 N a ++ rowq a b)).length co) (wpk L (pre9 N a ++ rowq a b) ++ (qs (L.take 0) ((a : Int) + 1) ((b : Int) + 1)).map fun t => ((a : Int) + 1, (b : Int) + 1, t)) wr) := hide (by simpa [qs] using unhide HB)
          generalize (wpk L (pre9 N a ++ rowq a b)).length = P at HB2 ⊢
          clear HB hks
          go_wp2_with fail
          go_loopw [3, 6] (fun v vk wr => ∃ k : Nat, k ≤ n ∧ vk = .int .i64 k ∧ Hid (Wt W v (wpk L (pre9 N a ++ rowq a b) ++ (qs (L.take k) ((a : Int) + 1) ((b : Int) + 1)).map fun t => ((a : Int) + 1, (b : Int) + 1, t)) wr)) (fun _ vk _ => n - (intOf vk).toNat)
          case atStart => exact ⟨0, Nat.zero_le _, rfl, HB2⟩
          case round =>
            clear c0
            obtain ⟨k, hk, rfl, HI⟩ := hrel
            obtain ⟨ai, ci, gi, hvi, _, _, _⟩ := (unhide HI).1.shape
            subst hvi
            have c1 := (unhide HI).2.cell (unhide HC).2
            by_cases hkn : k < n
            · have hkl : k < L.length := by rw [unhide HN]; exact hkn
              obtain rfl := (unhide HG) (by omega)
              have hkn' : (k : Int) < n := by omega
              have hb := (unhide HI).2
              have r0 : wr.cell? ⟨g, k * 3, none⟩ = some (.int .i64 L[k].1) := hb.cell (by have := (unhide HR) k hkl 0 _ rfl; simpa [E46] using this)
              have r1 : wr.cell? ⟨g, k * 3 + 1, none⟩ = some (.int .i64 L[k].2.1) := hb.cell (by have := (unhide HR) k hkl 1 _ rfl; simpa [E46] using this)
              have r2 : wr.cell? ⟨g, k * 3 + 2, none⟩ = some (.string L[k].2.2) := hb.cell (by have := (unhide HR) k hkl 2 _ rfl; simpa [E46] using this)
              have hq := qs_take L ((a : Int) + 1) ((b : Int) + 1) k hkl
              have HQ := hide hq
              clear hb hq
              generalize L[k].1 = x0 at *
              generalize L[k].2.1 = x1 at *
              generalize L[k].2.2 = x2 at *
              have hsum : (wpk L (pre9 N a ++ rowq a b) ++ (qs (L.take k) ((a : Int) + 1) ((b : Int) + 1)).map fun t => ((a : Int) + 1, (b : Int) + 1, t)).length + 1 ≤ 1000000000000 := by
                have h5 := qs_len (L.take k) ((a : Int) + 1) ((b : Int) + 1)
                have h6 := unhide HKS
                rw [List.length_take] at h5
                rw [List.length_append, List.length_map]
                omega
              have HSUM := hide hsum
              clear hsum
              by_cases hm : x0 = (a : Int) + 1 ∧ x1 = (b : Int) + 1
              · obtain ⟨rfl, rfl⟩ := hm
                have hqq := unhide HQ
                rw [if_pos ⟨rfl, rfl⟩] at hqq
                have HEQ := hide (show (wpk L (pre9 N a ++ rowq a b) ++ (qs (L.take (k + 1)) ((a : Int) + 1) ((b : Int) + 1)).map fun t => ((a : Int) + 1, (b : Int) + 1, t)) = (wpk L (pre9 N a ++ rowq a b) ++ (qs (L.take k) ((a : Int) + 1) ((b : Int) + 1)).map fun t => ((a : Int) + 1, (b : Int) + 1, t)) ++ [((a : Int) + 1, (b : Int) + 1, x2)] by rw [hqq, List.map_append, List.append_assoc]; rfl)
                clear hqq HQ
                generalize hQl : (wpk L (pre9 N a ++ rowq a b) ++ (qs (L.take k) ((a : Int) + 1) ((b : Int) + 1)).map fun t => ((a : Int) + 1, (b : Int) + 1, t)) = QQ at HI HSUM HEQ ⊢
                have HB0 := hide (unhide HI).2.size
                clear hQl
                go_wp2_with (first
                  | (at_builtin; refine app_pk2 ((a : Int) + 1, (b : Int) + 1, x2) (unhide HI).1 (unhide HB0) (unhide HSUM) rfl _ _ rfl rfl _ (by simp) rfl ?_; intro g3 cap3 w6 ho6 hg6 hv6; have HI6 : Hid (Wt W (.slice (some ⟨g3, 0, none⟩) (QQ.length + 1) cap3) (QQ ++ [((a : Int) + 1, (b : Int) + 1, x2)]) w6) := hide ⟨ho6, bel_grown ((unhide HI).2.trans ((Bel.refl _).alloc _)) hg6 (fun i hi => ((unhide HI).1.lt hi).1)⟩; clear ho6 hg6 hv6))
                go_roundw
                case rel =>
                  refine ⟨k + 1, by omega, by go_num, ?_⟩
                  rw [unhide HEQ]
                  exact HI6
                case measure => simp [intOf]; omega
              · have hqq := unhide HQ
                rw [if_neg hm, List.append_nil] at hqq
                rw [← hqq] at HI
                have e2 : (wpk L (pre9 N a ++ rowq a b) ++ (qs (L.take k) ((a : Int) + 1) ((b : Int) + 1)).map fun t => ((a : Int) + 1, (b : Int) + 1, t)).length = (wpk L (pre9 N a ++ rowq a b) ++ (qs (L.take (k + 1)) ((a : Int) + 1) ((b : Int) + 1)).map fun t => ((a : Int) + 1, (b : Int) + 1, t)).length := by rw [hqq]
                rw [← hqq]
                clear hqq HQ e2
                generalize (wpk L (pre9 N a ++ rowq a b) ++ (qs (L.take (k + 1)) ((a : Int) + 1) ((b : Int) + 1)).map fun t => ((a : Int) + 1, (b : Int) + 1, t)).length = P2 at HI ⊢
                by_cases hx : x0 = (a : Int) + 1
                · have hx0 : (x0 == (a : Int) + 1) = true := by simp [hx]
                  have hx1 : (x1 == (b : Int) + 1) = false := by simp; exact fun e => hm ⟨hx, e⟩
                  clear hm hx
                  go_wp2_with fail
                  go_roundw
                  case rel => exact ⟨k + 1, by omega, by go_num, HI⟩
                  case measure => simp [intOf]; omega
                · have hx0 : (x0 == (a : Int) + 1) = false := by simp [hx]
                  clear hm hx
                  go_wp2_with fail
                  go_roundw
                  case rel => exact ⟨k + 1, by omega, by go_num, HI⟩
                  case measure => simp [intOf]; omega
            · obtain rfl : k = n := by omega
              have e : (wpk L (pre9 N a ++ rowq a b) ++ (qs (L.take k) ((a : Int) + 1) ((b : Int) + 1)).map fun t => ((a : Int) + 1, (b : Int) + 1, t)) = wpk L (pre9 N a ++ rowq a (b + 1)) := by
                rw [List.take_of_length_le (by rw [unhide HN]; omega), rowq_next, ← List.append_assoc, wpk_app L _ [_], wpk_one]
              rw [e] at HI ⊢
              clear e
              generalize (wpk L (pre9 N a ++ rowq a (b + 1))).length = P2 at HI ⊢
              go_wp2_with fail
              go_roundw
              case rel => exact ⟨b + 1, by omega, by go_num, HI⟩
              case measure => simp [intOf]; omega
        · obtain rfl : b = N := by omega
          rw [← pre9_next] at HB ⊢
          generalize (wpk L (pre9 b (a + 1))).length = P2 at HB ⊢
          have hbN' : ¬ ((b : Int) + 1 ≤ b) := by omega
          go_wp2_with fail
          go_roundw
          case rel => exact ⟨a + 1, by omega, by go_num, HB⟩
          case measure => simp [intOf]; omega
    · obtain rfl : a = N := by omega
      have haN' : ¬ ((a : Int) + 1 ≤ a) := by omega
      rw [pre9_all] at HO ⊢
      generalize hP : (wpk L (allp a)).length = P2 at HO ⊢
      go_wp2_with fail
      go_ret
      exact ⟨_, rfl, unhide HO⟩
end Go.Proofs.Ytbcgikkdhfbphaa
