/- Append. -/
import Derived.Test.YtgimciacapfbfaaGreatDoorApd
namespace Go.Proofs.YtgimciacapfbfaaGreatDoor
open Go.RowKit Go.Maps Go.WideMaps
/-- A wal and its disk behind one record more. -/
def stp (s : PW × PD) (b : List UInt8) : PW × PD := (s.1.push b, (s.2.app (pth s.1.nm (s.1.file s.1.next)) (frm b)).2)
/-- It can be added. -/
structure Can (s : PW × PD) (b : List UInt8) : Prop where
  is : Is s.1
  nm : s.1.nm.length ≤ 64
  ol : s.2.ops.length ≤ 1000000
  st : s.1.start s.1.next ≤ 1099511627776
  ok : (s.2.app (pth s.1.nm (s.1.file s.1.next)) (frm b)).1 = 0
theorem take_one {α : Type} (l : List α) (k : Nat) (h : k < l.length) : l.take (k + 1) = l.take k ++ [l[k]] := by simp
theorem append_nil_wal (v : Value) (w : World) : Calls Tryz.prog 8 #[.pointer none, v] w fun e w' => e = .returned (.tuple #[.int .i64 0, .int .i64 1]) ∧ w' = w := by
  go_enter Tryz.func8, Tryz.ntmps8
  go_wp2_with (go_at_call 24; refine (gone_nil _).mono ?_; rintro e w1 ⟨rfl, rfl⟩)
  go_ret2
  exact ⟨rfl, rfl⟩
set_option maxRecDepth 100000 in
set_option maxHeartbeats 4000000 in
theorem wapp_any {w0 W : World} {C : Nat} {G : Nat → Prop} {q p : Nat} {x : PW} {d : PD} (h : Wa w0 C G W q p x d) (hg : Gl w0) (hn : x.nm ≠ []) (ts : List (List UInt8)) (N cap g off : Nat) (a : Option Addr) (hN : ts.length = N) (hl : N ≤ 1000) (ha : N ≠ 0 → a = some ⟨g, off, none⟩) (hG : N ≠ 0 → G g) (hrow : RowS W g off ts) (hok : ∀ s ∈ ts, s.length ≤ 1048576) (hC : C ≤ 1000000000)
    (hcan : ∀ k (hk : k < ts.length), Can ((ts.take k).foldl stp (x, d)) ts[k]) :
    Calls Tryz.prog 8 #[.pointer (some ⟨q, 0, none⟩), .slice a N cap] W fun e w' => e = .returned (.tuple #[.int .i64 N, .int .i64 0]) ∧ Wa w0 (C + N * 1048584) G w' q p (ts.foldl stp (x, d)).1 (ts.foldl stp (x, d)).2 ∧ Kp G W w' := by
  have h25 := hide (contains_any ts N cap g off a hN (by omega) ha W hrow hok)
  obtain ⟨a4, c4, hr4, _, _⟩ := h.see
  have h24 := hide (gone_any hr4 hn)
  have H := hide h
  have HN := hide hN
  have HA := hide ha
  have HG := hide hg
  have HGG := hide hG
  have HROW := hide hrow
  have HOK := hide hok
  have HCAN := hide hcan
  clear h hr4 hN ha hg hG hrow hok hcan
  go_enter Tryz.func8, Tryz.ntmps8
  go_wp2_with (first
    | (go_at_call 24; refine (unhide h24).mono ?_; rintro e w1 ⟨rfl, rfl⟩)
    | (go_at_call 25; refine (unhide h25).mono ?_; rintro e w1 ⟨rfl, rfl⟩))
  obtain ⟨WW, hWW⟩ : ∃ z, z = w1 := ⟨_, rfl⟩
  subst hWW
  go_loopw [6, 7, 8, 17] (fun _ _ _ vi wr => ∃ k : Nat, k ≤ N ∧ vi = .int .i64 k ∧ Hid (Wa w0 (C + k * 1048584) G wr q p ((ts.take k).foldl stp (x, d)).1 ((ts.take k).foldl stp (x, d)).2 ∧ Kp G WW wr)) (fun _ _ _ vi _ => N - (intOf vi).toNat)
  case atStart => exact ⟨0, Nat.zero_le _, rfl, by simpa using unhide H, Kp.refl _ _⟩
  case round =>
    obtain ⟨k, hk, rfl, HO⟩ := hrel
    by_cases hlt : k < N
    · have hkl : k < ts.length := by rw [HN.out]; exact hlt
      obtain rfl := HA.out (by omega)
      have x0 := ((unhide HO).2.cell ((unhide HGG) (by omega))).trans ((unhide HROW) k hkl)
      have hcn := (unhide HCAN) k hkl
      have hbl := (unhide HOK) ts[k] (List.getElem_mem hkl)
      have h27 := hide (add_any (unhide HO).1 (unhide HG) hcn.is hcn.nm ts[k] hbl hcn.ol (by omega) hcn.st (d' := (stp ((ts.take k).foldl stp (x, d)) ts[k]).2) (Prod.ext hcn.ok rfl))
      have hfd : Hid ((ts.take (k + 1)).foldl stp (x, d) = stp ((ts.take k).foldl stp (x, d)) ts[k]) := by rw [take_one ts k hkl, List.foldl_append]; rfl
      have hki : (k : Int) < (N : Int) := by omega
      generalize ts[k] = s at x0 h27 hfd hbl
      clear hcn
      go_wp2_with (go_at_call 27; refine (unhide h27).mono ?_; rintro e w5 ⟨rfl, hwa5, hkp5⟩; have H5 := hide hwa5; have K5 := hide hkp5; clear hwa5 hkp5)
      go_roundw
      case rel => exact ⟨k + 1, by omega, by go_num, by rw [unhide hfd]; exact (unhide H5).mono (by omega), (unhide HO).2.trans (unhide K5)⟩
      case measure => simp [intOf]; omega
    · have hki : ¬ (k : Int) < (N : Int) := by omega
      have hkn : Hid (k = N) := hide (by omega)
      go_wp2_with fail
      go_ret2
      obtain ⟨z1, z2⟩ := unhide HO
      rw [unhide hkn, List.take_of_length_le (by rw [HN.out]; exact Nat.le_refl _)] at z1
      exact ⟨rfl, z1, z2⟩
end Go.Proofs.YtgimciacapfbfaaGreatDoor
