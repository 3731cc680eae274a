/- seats: is a leader sure of its log, is a change under way; of any member. What a majority has, of any member. logs.advance, logs.Advance of any member. What is known of a leader that may be: plain. logs.Advance of a leader. logs.followAt, logs.entries of any member. Clone of any member: its members' -/
import Derived.Test.YthekbhliokcpcaaGreatT06
import Derived.Test.YthekbhliokcpcaaGreatT03
import Derived.Test.YthekbhliokcpcaaGreatT09
import Derived.Test.YthekbhliokcpcaaGreatT10
import Derived.Test.YthekbhliokcpcaaGreatT11
import Derived.Test.YthekbhliokcpcaaGreatT08
import Derived.Shelf.Spec.SlicesInsert
import Derived.Shelf.Spec.SlicesInsertGrow
import Derived.Test.YthekbhliokcpcaaGreatT04
import Derived.Test.YthekbhliokcpcaaGreatT05
namespace Go.Proofs.YthekbhliokcpcaaGreat
open Go.RowKit Go.Maps Go.Sort
def seatE (e : GE) : Bool := e.k == 2
set_option maxRecDepth 100000 in
theorem isS_g {W : World} (y : GE × GA) : Calls Tryz.prog 90 #[.agg (encG y).toArray] W fun e w' => e = .returned (.bool (seatE y.1)) ∧ Bel W w' := by
 unfold encG seatE
 go_enter Tryz.func90, Tryz.ntmps90
 go_wp2_with fail
 go_ret
 exact ⟨rfl, (Bel.refl W).alloc _⟩
set_option maxRecDepth 100000 in
set_option maxHeartbeats 2000000 in
theorem eidx_g {W : World} {a : Option Addr} {L : List (GE × GA)} (h : Sl EG W a L) (cap : Nat) (hn : L.length ≤ 1000000) : Calls Tryz.prog 144 #[.slice a L.length cap, .func (.func 90) #[] #[]] W fun e w' => ∃ i, e = .returned (.int .i64 i) ∧ ((i < 0 ∧ L.any (fun y => seatE y.1) = false) ∨ (0 ≤ i ∧ L.any (fun y => seatE y.1) = true)) ∧ Bel W w' := by
 obtain ⟨g, off, hg, hR⟩ := h
 have HC : Hid (∀ (w : World) (y : GE × GA) (c : Bool), seatE y.1 = c → Calls Tryz.prog 90 #[.agg (encG y).toArray] w fun e w' => e = .returned (.bool c) ∧ Bel w w') := jd (fun w y c e => by rw [← e]; exact isS_g y)
 generalize hn2 : L.length = n at *
 have HN := jd hn2
 have HG := jd hg
 have HR := jd hR
 clear hn2 hg hR
 go_enter Tryz.func144, Tryz.ntmps144
 go_wp2_with fail
 go_loopw [8] (fun vk wr => ∃ (k : Nat), k ≤ n ∧ vk = .int .i64 k ∧ Hid (Bel W wr) ∧ Hid (∀ j, j < k → ∀ y, L[j]? = some y → seatE y.1 = false)) (fun vk _ => n - (intOf vk).toNat)
 case atStart => exact ⟨0, Nat.zero_le _, rfl, jd (Bel.refl _), jd (fun j h => absurd h (Nat.not_lt_zero _))⟩
 case round =>
  obtain ⟨k, hk, rfl, HB, HE⟩ := hrel
  by_cases hlt : k < n
  ·have hkl : k < L.length := by rw [ju HN]; exact hlt
   obtain rfl := (ju HG) (by omega)
   have hkn : (k : Int) < n := by omega
   obtain ⟨r0, r1, r2, r3⟩ := EG_cell (ju HR) k hkl
   have r0 := (ju HB).cell r0
   have r1 := (ju HB).cell r1
   have r2 := (ju HB).cell r2
   have r3 := (ju HB).cell r3
   have HK : Hid (L[k]? = some L[k]) := jd (List.getElem?_eq_getElem hkl)
   have HC2 := jd ((ju HC) wr L[k])
   unfold encG at HC2
   generalize L[k] = y at *
   cases hd : seatE y.1 with
   | true =>
    have HC3 := jd ((ju HC2) true hd)
    have HF := jd hd
    clear hd HC2
    go_wp2_with (first
     | (go_at_call 90; refine (ju HC3).mono ?_; rintro e w3 ⟨rfl, hb3⟩; have HB3 := jd ((ju HB).trans hb3); clear hb3))
    go_ret
    exact ⟨_, rfl, Or.inr ⟨by omega, List.any_eq_true.2 ⟨y, List.mem_of_getElem? (ju HK), ju HF⟩⟩, ju HB3⟩
   | false =>
    have HC3 := jd ((ju HC2) false hd)
    have HF := jd hd
    clear hd HC2
    go_wp2_with (first
     | (go_at_call 90; refine (ju HC3).mono ?_; rintro e w3 ⟨rfl, hb3⟩; have HB3 := jd ((ju HB).trans hb3); clear hb3))
    go_roundw
    case rel => exact ⟨k + 1, by omega, by go_num, HB3, jd (fun j hj z hy => by
     by_cases e : j = k
     ·subst e
      have := ju HK
      rw [this] at hy
      obtain rfl := Option.some.inj hy
      exact ju HF
     ·exact (ju HE) j (by omega) z hy)⟩
    case measure => simp [intOf]; omega
  ·obtain rfl : k = n := by omega
   go_wp2_with fail
   go_ret
   refine ⟨_, rfl, Or.inl ⟨by decide, ?_⟩, ju HB⟩
   rw [List.any_eq_false]
   intro y hy
   obtain ⟨j, hj, e⟩ := List.getElem_of_mem hy
   have := (ju HE) j (by have := ju HN; omega) y (by rw [List.getElem?_eq_getElem hj, e])
   rw [this]
   decide
def GP.have (s : GP) : List Int := (if s.id ∈ s.M then [s.lastI] else []) ++ s.fol.map (·.2.2)
structure MhG (W wr : World) (b : Nat) (s : GP) (x : Px) (v : Value) (L : List Int) : Prop where
 row : wr.heap[b]? = some (.cells (gc s x) 31)
 bel : Bel W wr
 o : E26.O W.heap.size wr v L
section
variable {W wr w' : World} {b : Nat} {s : GP} {x : Px} {v v' : Value} {L L' : List Int}
theorem MhG.next (h : MhG W wr b s x v L) (hb : Bel wr w') : MhG W w' b s x v L := ⟨hb.row h.row, h.bel.trans hb, h.o.bel hb⟩
theorem MhG.app (h : MhG W wr b s x v L) (ho : E26.O W.heap.size w' v' L') (hg : wr.grownBy w' v.ownBlock) : MhG W w' b s x v' L' :=
 ⟨row_grown h.row h.o hg (by decide), (((h.bel.ch (fun i => W.heap.size ≤ i)).grown hg (fun k hk => Or.inl (h.o.lt hk).1)).below (Nat.le_refl _) (fun _ hi => hi)), ho⟩
end
def MhGR (W : World) (b : Nat) (s : GP) (x : Px) (st : List Int) (no : Nat) (vi vu : Value) (wr : World) : Prop := ∃ (k : Nat) (g : Option Addr) (cap : Nat) (L : List Int), k ≤ no ∧ vi = .int .i64 k ∧ vu = .slice g L.length cap ∧ Hid (L = st ++ (s.fol.take k).map (·.2.2)) ∧ Hid (MhG W wr b s x (.slice g L.length cap) L)
theorem MhG.adr {W wr : World} {b : Nat} {s : GP} {x : Px} {a : Option Addr} {c : Nat} {L : List Int} (h : MhG W wr b s x (.slice a L.length c) L) (h1 : 0 < L.length) : ∃ g, a = some ⟨g, 0, none⟩ := by
 obtain ⟨a1, c1, g1, e, h2, _⟩ := h.o.shape
 cases e
 exact ⟨g1, h2 (by omega)⟩
set_option maxRecDepth 100000 in
set_option maxHeartbeats 4000000 in
theorem most_g {W : World} {s : GP} {x : Px} (hm : Sl E3 W x.aM s.M) (hl : SlG W x.aL s.log) (hf : Sl E65 W x.aF s.fol) (hn : s.M.length ≤ 64) (h0 : 0 ≤ s.base) (h1 : s.base ≤ 4611686018427387904) (hlen : s.log.length ≤ 1000000) (hfl : s.fol.length ≤ 64) (hne : s.have ≠ []) : Calls Tryz.prog 130 #[.agg (gc s x)] W fun e w' => e = .returned (.int .u64 (most s.have)) ∧ Bel W w' := by
 have HC : Hid (∀ w1, Bel W w1 → Calls Tryz.prog 82 #[.slice x.aM s.M.length x.cM, .int .i64 s.id] w1 fun e w' => e = .returned (.bool (decide (s.id ∈ s.M))) ∧ w' = w1) := jd (fun w1 hb => contains_any (hm.bel hb) x.cM s.id (by omega))
 have HL : Hid (∀ w1, Bel W w1 → Calls Tryz.prog 79 #[.agg (gc s x)] w1 fun e w' => ∃ t, e = .returned (.tuple #[.int .u64 s.lastI, .int .u64 t]) ∧ Bel w1 w') := jd (fun w1 hb => (last_g (hl.bel hb) h0 h1 hlen).mono (fun _ _ ⟨he, hb'⟩ => ⟨_, he, hb'⟩))
 have HF := jd hf
 have HFL := jd hfl
 have HNE := jd hne
 clear hm hl hf hlen hfl h0 h1 hn hne
 obtain ⟨st, hst⟩ : ∃ st : List Int, st = if s.id ∈ s.M then [s.lastI] else [] := ⟨_, rfl⟩
 have HH : Hid (s.have = st ++ s.fol.map (·.2.2)) := jd (by rw [hst]; rfl)
 have HS1 : Hid (st.length ≤ 1) := jd (by rw [hst]; split <;> simp)
 generalize hno : s.fol.length = no at *
 have HNO := jd hno
 have hno64 : no ≤ 64 := ju HFL
 clear hno
 by_cases hin : s.id ∈ s.M
 ·rw [if_pos hin] at hst
  rw [decide_eq_true hin] at HC
  have HST := jd hst
  clear hin hst
  go_enter Tryz.func130, Tryz.ntmps130
  go_wp2_with (first
   | go_skip
   | (refine bx_boxK 31 (.tmp 0) (by exact rfl) (by exact rfl) (gc s x) (by exact rfl) ?_; intro b w0 hr0 hs0 hb0; have y0 := (Bg.of hr0).c0; have y1 := (Bg.of hr0).c1; have HM : Hid (MhG W w0 b s x (.slice none 0 0) []) := jd ⟨hr0, hb0, El.O.nil _ _⟩; clear hr0 hs0 hb0)
   | (refine bx_ldK 31 (.tmp 1) (by exact rfl) b (by exact rfl) (by exact rfl) (gc s x) _ (ju HM).row u31 (zP _ _) ?_)
   | go_guarded
   | (go_at_call 82; refine ((ju HC) _ (ju HM).bel).mono ?_; rintro e w1 ⟨rfl, hw1⟩; rw [hw1]; clear hw1)
   | (go_at_call 79; refine ((ju HL) _ (ju HM).bel).mono ?_; rintro e w2 ⟨t, rfl, hb2⟩; replace HM := jd ((ju HM).next hb2); have z15 := (Bg.of (ju HM).row).c15; rw [ju HNO] at z15; clear hb2)
   | (at_builtin; refine app1_el (E := E26) s.lastI st (ju HST) ((ju HM).next ((Bel.refl _).alloc _)).o ((ju HM).next ((Bel.refl _).alloc _)).bel.size _ _ (at_new _ _) (by simp) rfl _ _ 199 rfl rfl rfl rfl ?_; intro g cap w4 ho4 hg4 hat4; replace HM := jd (((ju HM).next ((Bel.refl _).alloc _)).app ho4 hg4); have y15 := (Bg.of (ju HM).row).c15; rw [ju HNO] at y15; clear ho4 hg4 hat4))
  clear y0 y1 y15
  go_loopw [25, 3] (MhGR W b s x st no) (fun vi _ _ => no - (intOf vi).toNat)
  case atStart =>
   have hst1 := ju HST
   exact ⟨0, some ⟨g, 0, none⟩, cap, st, Nat.zero_le _, rfl, by rw [hst1], jd (by simp), by rw [hst1] at HM ⊢; exact HM⟩
  case round =>
   obtain ⟨k, g2, cap2, L, hk, rfl, rfl, HLk, HMr⟩ := hrel
   by_cases hlt : k < no
   ·have hkn : (k : Int) < no := by omega
    have hkl : k < s.fol.length := by rw [ju HNO]; exact hlt
    obtain ⟨gf, off, hgf, hR⟩ := (ju HF).bel (ju HMr).bel
    have ea := hgf (by omega)
    obtain ⟨r0, r1, r2⟩ := E65_cell hR k hkl
    obtain ⟨L', hL'⟩ : ∃ L', L' = L ++ [s.fol[k].2.2] := ⟨_, rfl⟩
    have HL2 : Hid (L' = st ++ (s.fol.take (k + 1)).map (·.2.2)) := jd (by
     rw [hL', ju HLk, List.take_add_one, List.getElem?_eq_getElem hkl, List.map_append, List.append_assoc]; rfl)
    have HL' := jd hL'
    have HLL : Hid (L.length ≤ 65) := jd (by rw [ju HLk, List.length_append, List.length_map, List.length_take]; have := ju HFL; have := ju HS1; omega)
    rw [ea]
    generalize s.fol[k].2.2 = mt at *
    generalize s.fol[k].2.1 = nx at *
    generalize s.fol[k].1 = fi at *
    clear hgf hR hL' ea
    go_wp2_with (first
     | go_skip
     | go_guarded
     | (at_builtin; refine app1_el (E := E26) mt L' (ju HL') ((ju HMr).next (((Bel.refl _).alloc _).alloc _)).o ((ju HMr).next (((Bel.refl _).alloc _).alloc _)).bel.size _ _ (at_new2 _ _ _) (by have := ju HLL; omega) rfl _ _ 199 rfl rfl rfl rfl ?_; intro g4 cap4 w4 ho4 hg4 hat4; have HM4 := jd (((ju HMr).next (((Bel.refl _).alloc _).alloc _)).app ho4 hg4); clear ho4 hg4 hat4))
    go_roundw
    case rel =>
     have hfin : ∀ v u : Value, v = .int .i64 ((k + 1 : Nat) : Int) → u = .slice (some ⟨g4, 0, none⟩) L'.length cap4 → MhGR W b s x st no v u w4 := fun v u hv hu => ⟨k + 1, some ⟨g4, 0, none⟩, cap4, L', by omega, hv, hu, HL2, HM4⟩
     first
      | exact hfin _ _ (by go_num) rfl
      | ((repeat apply Exists.intro); exact ⟨hfin _ _ (by go_num) rfl, rfl, rfl⟩)
    case measure => simp [intOf]; omega
   ·obtain rfl : k = no := by omega
    have hLL : L = s.have := by rw [ju HLk, List.take_of_length_le (by rw [ju HNO]; omega), ju HH]
    have hl0 : L.length ≤ 65 := by rw [hLL, ju HH, List.length_append, List.length_map]; have := ju HNO; have := ju HS1; omega
    have hl1 : 0 < L.length := by rw [hLL]; exact List.length_pos_iff.2 (ju HNE)
    obtain ⟨g2, rfl⟩ := (ju HMr).adr hl1
    have HS : Hid (∀ w1, E26.O W.heap.size w1 (.slice (some ⟨g2, 0, none⟩) L.length cap2) L → Calls Tryz.prog 171 #[.slice (some ⟨g2, 0, none⟩) L.length cap2, .func (.func 172) #[] #[]] w1 fun e w' => e = .returned (.tuple #[]) ∧ E26.O W.heap.size w' (.slice (some ⟨g2, 0, none⟩) L.length cap2) (srtD L) ∧ Ch (fun i => i = g2) w1 w') := jd (fun w1 h1 => sort_U _ g2 cap2 L w1 h1 (by omega))
    have HLS := jd hLL
    have HO := jd (ju HMr).o
    have HBR := jd (ju HMr).bel
    obtain ⟨j, hj⟩ : ∃ j, j = L.length / 2 := ⟨_, rfl⟩
    have hdt : Int.tdiv (L.length : Int) 2 = (j : Int) := by rw [Int.tdiv_eq_ediv_of_nonneg (by omega)]; omega
    have HJ : Hid (j < L.length ∧ j = L.length / 2) := jd ⟨by omega, hj⟩
    have hlt2 : (j : Int) < L.length := by omega
    clear hLL hj hl1 HMr
    generalize hm : L.length = m at *
    have HMM := jd hm
    clear hm hlt hk
    go_wp2_with (first
     | go_skip
     | go_guarded
     | (go_at_call 171; refine ((ju HS) _ (ju HO)).mono ?_; rintro e w6 ⟨rfl, ho6, hc6⟩; have HB6 := jd (bel_off (ju HBR) hc6 ((ju HO).lt (k := g2) rfl).1); have z6 : w6.cell? ⟨g2, j, none⟩ = some (.int .u64 (most s.have)) := (by rw [E26_cell ho6 (by rw [srtD_len]; exact (ju HMM).symm) j (by rw [srtD_len, ju HMM]; exact (ju HJ).1)]; unfold most; rw [← ju HLS, ju HMM, ← (ju HJ).2]); clear ho6 hc6))
    go_ret
    exact ⟨rfl, ju HB6⟩
 ·rw [if_neg hin] at hst
  rw [decide_eq_false hin] at HC
  have HST := jd hst
  clear hin hst HL
  go_enter Tryz.func130, Tryz.ntmps130
  go_wp2_with (first
   | go_skip
   | (refine bx_boxK 31 (.tmp 0) (by exact rfl) (by exact rfl) (gc s x) (by exact rfl) ?_; intro b w0 hr0 hs0 hb0; have y0 := (Bg.of hr0).c0; have y1 := (Bg.of hr0).c1; have y15 := (Bg.of hr0).c15; rw [ju HNO] at y15; have HM : Hid (MhG W w0 b s x (.slice none 0 0) []) := jd ⟨hr0, hb0, El.O.nil _ _⟩; clear hr0 hs0 hb0)
   | go_guarded
   | (go_at_call 82; refine ((ju HC) _ (ju HM).bel).mono ?_; rintro e w1 ⟨rfl, hw1⟩; rw [hw1]; clear hw1))
  clear y0 y1 y15
  go_loopw [25, 3] (MhGR W b s x st no) (fun vi _ _ => no - (intOf vi).toNat)
  case atStart =>
   have hst1 := ju HST
   exact ⟨0, none, 0, st, Nat.zero_le _, rfl, by rw [hst1]; rfl, jd (by simp), by rw [hst1]; exact HM⟩
  case round =>
   obtain ⟨k, g2, cap2, L, hk, rfl, rfl, HLk, HMr⟩ := hrel
   by_cases hlt : k < no
   ·have hkn : (k : Int) < no := by omega
    have hkl : k < s.fol.length := by rw [ju HNO]; exact hlt
    obtain ⟨gf, off, hgf, hR⟩ := (ju HF).bel (ju HMr).bel
    have ea := hgf (by omega)
    obtain ⟨r0, r1, r2⟩ := E65_cell hR k hkl
    obtain ⟨L', hL'⟩ : ∃ L', L' = L ++ [s.fol[k].2.2] := ⟨_, rfl⟩
    have HL2 : Hid (L' = st ++ (s.fol.take (k + 1)).map (·.2.2)) := jd (by
     rw [hL', ju HLk, List.take_add_one, List.getElem?_eq_getElem hkl, List.map_append, List.append_assoc]; rfl)
    have HL' := jd hL'
    have HLL : Hid (L.length ≤ 65) := jd (by rw [ju HLk, List.length_append, List.length_map, List.length_take]; have := ju HFL; have := ju HS1; omega)
    rw [ea]
    generalize s.fol[k].2.2 = mt at *
    generalize s.fol[k].2.1 = nx at *
    generalize s.fol[k].1 = fi at *
    clear hgf hR hL' ea
    go_wp2_with (first
     | go_skip
     | go_guarded
     | (at_builtin; refine app1_el (E := E26) mt L' (ju HL') ((ju HMr).next (((Bel.refl _).alloc _).alloc _)).o ((ju HMr).next (((Bel.refl _).alloc _).alloc _)).bel.size _ _ (at_new2 _ _ _) (by have := ju HLL; omega) rfl _ _ 199 rfl rfl rfl rfl ?_; intro g4 cap4 w4 ho4 hg4 hat4; have HM4 := jd (((ju HMr).next (((Bel.refl _).alloc _).alloc _)).app ho4 hg4); clear ho4 hg4 hat4))
    go_roundw
    case rel =>
     have hfin : ∀ v u : Value, v = .int .i64 ((k + 1 : Nat) : Int) → u = .slice (some ⟨g4, 0, none⟩) L'.length cap4 → MhGR W b s x st no v u w4 := fun v u hv hu => ⟨k + 1, some ⟨g4, 0, none⟩, cap4, L', by omega, hv, hu, HL2, HM4⟩
     first
      | exact hfin _ _ (by go_num) rfl
      | ((repeat apply Exists.intro); exact ⟨hfin _ _ (by go_num) rfl, rfl, rfl⟩)
    case measure => simp [intOf]; omega
   ·obtain rfl : k = no := by omega
    have hLL : L = s.have := by rw [ju HLk, List.take_of_length_le (by rw [ju HNO]; omega), ju HH]
    have hl0 : L.length ≤ 65 := by rw [hLL, ju HH, List.length_append, List.length_map]; have := ju HNO; have := ju HS1; omega
    have hl1 : 0 < L.length := by rw [hLL]; exact List.length_pos_iff.2 (ju HNE)
    obtain ⟨g2, rfl⟩ := (ju HMr).adr hl1
    have HS : Hid (∀ w1, E26.O W.heap.size w1 (.slice (some ⟨g2, 0, none⟩) L.length cap2) L → Calls Tryz.prog 171 #[.slice (some ⟨g2, 0, none⟩) L.length cap2, .func (.func 172) #[] #[]] w1 fun e w' => e = .returned (.tuple #[]) ∧ E26.O W.heap.size w' (.slice (some ⟨g2, 0, none⟩) L.length cap2) (srtD L) ∧ Ch (fun i => i = g2) w1 w') := jd (fun w1 h1 => sort_U _ g2 cap2 L w1 h1 (by omega))
    have HLS := jd hLL
    have HO := jd (ju HMr).o
    have HBR := jd (ju HMr).bel
    obtain ⟨j, hj⟩ : ∃ j, j = L.length / 2 := ⟨_, rfl⟩
    have hdt : Int.tdiv (L.length : Int) 2 = (j : Int) := by rw [Int.tdiv_eq_ediv_of_nonneg (by omega)]; omega
    have HJ : Hid (j < L.length ∧ j = L.length / 2) := jd ⟨by omega, hj⟩
    have hlt2 : (j : Int) < L.length := by omega
    clear hLL hj hl1 HMr
    generalize hm : L.length = m at *
    have HMM := jd hm
    clear hm hlt hk
    go_wp2_with (first
     | go_skip
     | go_guarded
     | (go_at_call 171; refine ((ju HS) _ (ju HO)).mono ?_; rintro e w6 ⟨rfl, ho6, hc6⟩; have HB6 := jd (bel_off (ju HBR) hc6 ((ju HO).lt (k := g2) rfl).1); have z6 : w6.cell? ⟨g2, j, none⟩ = some (.int .u64 (most s.have)) := (by rw [E26_cell ho6 (by rw [srtD_len]; exact (ju HMM).symm) j (by rw [srtD_len, ju HMM]; exact (ju HJ).1)]; unfold most; rw [← ju HLS, ju HMM, ← (ju HJ).2]); clear ho6 hc6))
    go_ret
    exact ⟨rfl, ju HB6⟩
def GP.adv (s : GP) : GP := { s with commit := if (s.tAt (most s.have)).getD 0 = s.term then max s.commit (most s.have) else s.commit }
section
variable {ops : Array Oper} {rest : List Oper} {o : Oper} {a : Act} {Q : Exit → Act → World → Prop} {W : World} {s : GP} {z : Px}
theorem gl_commit (hgd : o.guard = none) (x y : Operand) (ho : o.op = .store 25 x y) (b : Nat) (v : Int) (hx : a.eval x = .pointer (some ⟨b, 11, none⟩)) (hy : a.eval y = .int .u64 v) (hg : W.heap[b]? = some (.cells (gc s z) 31))
  (hK : ∀ w', w'.heap[b]? = some (.cells (gc { s with commit := v } z) 31) → Ch (fun k => k = b) W w' → wpList Tryz.prog ops Q rest (a.put o.dst undef) w') : wpList Tryz.prog ops Q (o :: rest) a W :=
 gx_fld hgd 25 x y ho b 11 _ hx hy rfl rfl hg Tryz.one26 (by decide) rfl hK
end
structure TyG (W w : World) (b b2 : Nat) (s : GP) (x : Px) : Prop where
 row : w.heap[b]? = some (.cells (gc s x) 31)
 bel : Bel W w
 row2 : ∃ s2 x2, w.heap[b2]? = some (.cells (gc s2 x2) 31)
 ge : W.heap.size ≤ b
 ge2 : W.heap.size ≤ b2
 ne : b2 ≠ b
section
variable {W w w' : World} {b b2 : Nat} {s s' : GP} {x x' : Px}
theorem TyG.set (h : TyG W w b b2 s x) (h1 : w'.heap[b]? = some (.cells (gc s' x') 31)) (hc : Ch (fun i => i = b) w w') : TyG W w' b b2 s' x' := by
 obtain ⟨s2, x2, h2⟩ := h.row2
 exact ⟨h1, bel_off h.bel hc h.ge, ⟨s2, x2, hc.row h2 h.ne⟩, h.ge, h.ge2, h.ne⟩
theorem TyG.next (h : TyG W w b b2 s x) (hb : Bel w w') : TyG W w' b b2 s x := by
 obtain ⟨s2, x2, h2⟩ := h.row2
 exact ⟨hb.row h.row, h.bel.trans hb, ⟨s2, x2, hb.row h2⟩, h.ge, h.ge2, h.ne⟩
theorem TyG.out (h : TyG W w b b2 s x) (hc : Ch (fun i => i = b2) w w') : Bel W w' := bel_off h.bel hc h.ge2
end
set_option maxRecDepth 100000 in
set_option maxHeartbeats 2000000 in
theorem adv_g {W : World} {s : GP} {x : Px} (h : Gp W s x) (hn : s.M.length ≤ 64) (h0 : 0 ≤ s.base) (h1 : s.base ≤ 4611686018427387904) (hlen : s.log.length ≤ 1000000) (hfl : s.fol.length ≤ 64) (hne : s.have ≠ []) (hmo : 0 ≤ most s.have ∧ most s.have ≤ 18446744073709551615) : Calls Tryz.prog 72 #[.agg (gc s x)] W fun e w' => e = .returned (.agg (gc s.adv x)) ∧ Bel W w' := by
 obtain ⟨i, hi⟩ : ∃ i : Int, most s.have = i := ⟨_, rfl⟩
 rw [hi] at hmo
 have H1 : Hid (∀ w1, Bel W w1 → Calls Tryz.prog 130 #[.agg (gc s x)] w1 fun e w' => e = .returned (.int .u64 i) ∧ Bel w1 w') := jd (fun w1 hb => by
  have := most_g (h.m.bel hb) (h.l.bel hb) (h.f.bel hb) hn h0 h1 hlen hfl hne
  rwa [hi] at this)
 have H2 : Hid (∀ w1, Bel W w1 → Calls Tryz.prog 74 #[.agg (gc s x), .int .u64 i] w1 fun e w' => e = .returned (.tuple #[.int .u64 ((s.tAt i).getD 0), .bool (s.tAt i).isSome]) ∧ Bel w1 w') := jd (fun w1 hb => term_g (h.l.bel hb) i h0 hmo hlen)
 by_cases ht : (s.tAt i).getD 0 = s.term
 ·have HE : Hid (s.adv = { s with commit := max s.commit i }) := jd (by unfold GP.adv; rw [hi, if_pos ht])
  have htb : ((s.tAt i).getD 0 == s.term) = true := by simp [ht]
  clear h hn h0 h1 hlen hfl hne hmo hi
  obtain ⟨mc, hmc⟩ : ∃ mc, mc = max s.commit i := ⟨_, rfl⟩
  have hmx : max s.commit i = mc := hmc.symm
  have HMC := jd hmc
  clear hmc ht
  generalize (s.tAt i).getD 0 = ti at *
  generalize (s.tAt i).isSome = bs at *
  go_enter Tryz.func72, Tryz.ntmps72
  go_wp2_with (first
   | go_skip
   | go_guarded
   | (refine bx_box rfl 31 _ rfl (gc s x) rfl ?_; intro b w0 hr0 hs0 hb0; have HR0 := jd hr0; have HB0 := jd (aI hb0 hs0); clear hr0 hs0 hb0)
   | (refine bx_new rfl 31 rfl _ Tryz.zeroP ?_; intro b2 w1 hr1 hs1 hb1; have HZ : Hid (TyG W w1 b b2 s x) := jd ⟨hb1.row (ju HR0), (ju HB0).1.trans hb1, ⟨_, _, hr1⟩, by have := (ju HB0).2; omega, by have := (ju HB0).1.size; omega, fun e => by have := lt_of_some (ju HR0); omega⟩; clear hr1 hs1 hb1 HR0 HB0)
   | (refine bx_ldG rfl 31 _ rfl b rfl _ _ (ju HZ).row u31 (zP _ _) ?_)
   | (go_at_call 130; refine ((ju H1) _ (ju HZ).bel).mono ?_; rintro e w2 ⟨rfl, hb2⟩; replace HZ := jd ((ju HZ).next hb2); clear hb2)
   | (go_at_call 74; refine ((ju H2) _ (ju HZ).bel).mono ?_; rintro e w3 ⟨rfl, hb3⟩; replace HZ := jd ((ju HZ).next hb3); have y2 := (Bg.of (ju HZ).row).c2; have y11 := (Bg.of (ju HZ).row).c11; clear hb3)
   | (refine gl_commit rfl _ _ rfl b mc rfl rfl (ju HZ).row ?_; intro w5 hr5 hc5; replace HZ := jd ((ju HZ).set hr5 hc5); clear hr5 hc5)
   | (obtain ⟨s2, x2, h2⟩ := (ju HZ).row2; refine bx_st rfl 31 _ _ rfl b2 _ _ rfl rfl h2 (zP _ _) rfl (gc_one _ _) ?_; intro w9 hr9 hc9; have HR9 := jd (aI hr9 ((ju HZ).out hc9)); clear hr9 hc9 h2))
  rw [ju HE]
  have hmc2 := ju HMC
  rw [← hmc2]
  exact bodyPost_ret (res1 (p := 2) rfl u31 (zP _ _) (ju HR9).1 _ rfl) rfl ⟨rfl, (ju HR9).2⟩
 ·have HE : Hid (s.adv = s) := jd (by unfold GP.adv; rw [hi, if_neg ht])
  have htb : ((s.tAt i).getD 0 == s.term) = false := by simp [ht]
  clear h hn h0 h1 hlen hfl hne hmo hi ht
  generalize (s.tAt i).getD 0 = ti at *
  generalize (s.tAt i).isSome = bs at *
  go_enter Tryz.func72, Tryz.ntmps72
  go_wp2_with (first
   | go_skip
   | go_guarded
   | (refine bx_box rfl 31 _ rfl (gc s x) rfl ?_; intro b w0 hr0 hs0 hb0; have HR0 := jd hr0; have HB0 := jd (aI hb0 hs0); clear hr0 hs0 hb0)
   | (refine bx_new rfl 31 rfl _ Tryz.zeroP ?_; intro b2 w1 hr1 hs1 hb1; have HZ : Hid (TyG W w1 b b2 s x) := jd ⟨hb1.row (ju HR0), (ju HB0).1.trans hb1, ⟨_, _, hr1⟩, by have := (ju HB0).2; omega, by have := (ju HB0).1.size; omega, fun e => by have := lt_of_some (ju HR0); omega⟩; clear hr1 hs1 hb1 HR0 HB0)
   | (refine bx_ldG rfl 31 _ rfl b rfl _ _ (ju HZ).row u31 (zP _ _) ?_)
   | (go_at_call 130; refine ((ju H1) _ (ju HZ).bel).mono ?_; rintro e w2 ⟨rfl, hb2⟩; replace HZ := jd ((ju HZ).next hb2); clear hb2)
   | (go_at_call 74; refine ((ju H2) _ (ju HZ).bel).mono ?_; rintro e w3 ⟨rfl, hb3⟩; replace HZ := jd ((ju HZ).next hb3); have y2 := (Bg.of (ju HZ).row).c2; have y11 := (Bg.of (ju HZ).row).c11; clear hb3)
   | (obtain ⟨s2, x2, h2⟩ := (ju HZ).row2; refine bx_st rfl 31 _ _ rfl b2 _ _ rfl rfl h2 (zP _ _) rfl (gc_one _ _) ?_; intro w9 hr9 hc9; have HR9 := jd (aI hr9 ((ju HZ).out hc9)); clear hr9 hc9 h2))
  rw [ju HE]
  exact bodyPost_ret (res1 (p := 2) rfl u31 (zP _ _) (ju HR9).1 _ rfl) rfl ⟨rfl, (ju HR9).2⟩
theorem folsB_map {last : Int} : ∀ {F : List (Int × Int × Int)} {I : List Int}, folsB last F I = true → F.map (·.1) = I
 | [], [], _ => rfl
 | [], _ :: _, h => by simp [folsB] at h
 | _ :: _, [], h => by simp [folsB] at h
 | g :: F, i :: I, h => by
  unfold folsB fol1B at h
  simp only [Bool.and_eq_true, beq_iff_eq] at h
  rw [List.map_cons, h.1.1, folsB_map h.2]
theorem folsB_all {last : Int} : ∀ {F : List (Int × Int × Int)} {I : List Int}, folsB last F I = true → ∀ f ∈ F, 1 ≤ f.2.1 ∧ f.2.1 ≤ last + 1 ∧ f.2.2 < f.2.1
 | [], _, _, f, hf => by cases hf
 | g :: F, [], h, f, hf => by simp [folsB] at h
 | g :: F, i :: I, h, f, hf => by
  unfold folsB fol1B at h
  simp only [Bool.and_eq_true, decide_eq_true_eq] at h
  rcases List.mem_cons.1 hf with e | e
  ·rw [e]; exact ⟨h.1.2.1, h.1.2.2.1, h.1.2.2.2⟩
  ·exact folsB_all h.2 f e
structure Lf (s : GP) : Prop where
 m1 : 0 < s.M.length
 m64 : s.M.length ≤ 64
 ids : aids 0 s.M = true
 map : s.fol.map (·.1) = othG s
 f64 : s.fol.length ≤ 64
 fb : ∀ f ∈ s.fol, 1 ≤ f.2.1 ∧ f.2.1 ≤ s.lastI + 1 ∧ f.2.2 < f.2.1
 ne : s.have ≠ []
 t1 : 0 < s.term
 b62 : s.base ≤ 4611686018427387904
 com : s.base ≤ s.commit ∧ s.commit ≤ s.lastI
 vo : s.votes = []
 ld : s.lead = s.id
theorem lf_of {s : GP} (h : mayG s = true) (hr : s.role = 2) : Lf s := by
 obtain ⟨h1, h2, h3, h4⟩ := mayG_num h
 obtain ⟨m1, m2⟩ := mem_ids h2 h3
 have m64 := (mem64 h2 h3).2
 unfold rolB at h4
 rw [if_pos hr] at h4
 unfold leadB at h4
 simp only [Bool.and_eq_true, beq_iff_eq, decide_eq_true_eq] at h4
 obtain ⟨hl, ht, hv, hf, hre⟩ := h4
 have hmap := folsB_map hf
 have hlen : s.fol.length = (othG s).length := by rw [← hmap, List.length_map]
 have hol : (othG s).length ≤ s.M.length := List.length_filter_le _ _
 unfold logB at h2
 simp only [Bool.and_eq_true, decide_eq_true_eq] at h2
 refine ⟨m1, m64, m2, hmap, by omega, folsB_all hf, ?_, ht, numB_base h1, ⟨h2.2.2.2.2.1, h2.2.2.2.2.2⟩, List.eq_nil_of_length_eq_zero (by omega), hl⟩
 intro e
 unfold GP.have at e
 rw [List.append_eq_nil_iff] at e
 by_cases hin : s.id ∈ s.M
 ·rw [if_pos hin] at e; cases e.1
 ·have : s.fol = [] := List.map_eq_nil_iff.1 e.2
  rw [this] at hmap
  have ho : othG s = s.M := by
   unfold othG
   refine List.filter_eq_self.2 (fun y hy => ?_)
   simp only [Bool.not_eq_true', beq_eq_false_iff_ne]
   exact fun e2 => hin (e2 ▸ hy)
  rw [ho] at hmap
  rw [← hmap] at m1
  simp at m1
theorem Lf.mostB {s : GP} (h : Lf s) (h0 : 0 ≤ s.base) (hft : ∀ f ∈ s.fol, 0 ≤ f.2.2) : 0 ≤ most s.have ∧ most s.have ≤ s.lastI := by
 have hm := most_mem h.ne
 have hl : 0 ≤ s.lastI := by unfold GP.lastI; omega
 generalize most s.have = z at *
 unfold GP.have at hm
 rcases List.mem_append.1 hm with e | e
 ·by_cases hin : s.id ∈ s.M
  ·rw [if_pos hin, List.mem_singleton] at e; omega
  ·rw [if_neg hin] at e; cases e
 ·obtain ⟨f, hf, e⟩ := List.mem_map.1 e
  have := h.fb f hf
  have := hft f hf
  omega
theorem Lf.adv_call {W : World} {s : GP} {x : Px} (hl : Lf s) (h : Gp W s x) (h0 : 0 ≤ s.base) (hlen : s.log.length ≤ 1000000) (hft : ∀ f ∈ s.fol, 0 ≤ f.2.2) : Calls Tryz.prog 72 #[.agg (gc s x)] W fun e w' => e = .returned (.agg (gc s.adv x)) ∧ Bel W w' := by
 have hm := hl.mostB h0 hft
 have hb := hl.b62
 have hlI : s.lastI = s.base + s.log.length := rfl
 exact adv_g h hl.m64 h0 hl.b62 hlen hl.f64 hl.ne ⟨hm.1, by omega⟩
theorem Pg.adv {base : Nat} {W : World} {s : GP} {x : Px} (h : Pg base W s x) : Pg base W s.adv x := ⟨h.m, h.b, h.l, h.v, h.f, h.r, h.dv⟩
structure TzG (W w : World) (b b2 : Nat) (s : GP) (x : Px) : Prop where
 row : w.heap[b]? = some (.cells (gc s x) 31)
 pg : Pg W.heap.size w s x
 bel : Bel W w
 row2 : ∃ s2 x2, w.heap[b2]? = some (.cells (gc s2 x2) 31)
 ge : W.heap.size ≤ b
 ge2 : W.heap.size ≤ b2
 ne : b2 ≠ b
section
variable {W w w' : World} {b b2 : Nat} {s s' : GP} {x x' : Px}
theorem TzG.next (h : TzG W w b b2 s x) (hb : Bel w w') : TzG W w' b b2 s x := by
 obtain ⟨s2, x2, h2⟩ := h.row2
 exact ⟨hb.row h.row, h.pg.bel hb, h.bel.trans hb, ⟨s2, x2, hb.row h2⟩, h.ge, h.ge2, h.ne⟩
theorem TzG.put (h : TzG W w b b2 s x) (hp : Pg W.heap.size w s' x') (h1 : w'.heap[b]? = some (.cells (gc s' x') 31)) (hc : Ch (fun i => i = b) w w') : TzG W w' b b2 s' x' := by
 obtain ⟨s2, x2, h2⟩ := h.row2
 exact ⟨h1, hp.box h.row hc, bel_off h.bel hc h.ge, ⟨s2, x2, hc.row h2 h.ne⟩, h.ge, h.ge2, h.ne⟩
theorem TyG.put (h : TyG W w b b2 s x) (hp : Pg W.heap.size w s' x') (h1 : w'.heap[b]? = some (.cells (gc s' x') 31)) (hc : Ch (fun i => i = b) w w') : TzG W w' b b2 s' x' := by
 obtain ⟨s2, x2, h2⟩ := h.row2
 exact ⟨h1, hp.box h.row hc, bel_off h.bel hc h.ge, ⟨s2, x2, hc.row h2 h.ne⟩, h.ge, h.ge2, h.ne⟩
theorem TzG.out (h : TzG W w b b2 s x) (h2 : w.heap[b2]? = some (.cells (gc s' x') 31)) (hc : Ch (fun i => i = b2) w w') : Pg W.heap.size w' s x ∧ Bel W w' := ⟨h.pg.box h2 hc, bel_off h.bel hc h.ge2⟩
end
set_option maxRecDepth 100000 in
set_option maxHeartbeats 4000000 in
theorem advance_g {W : World} {s : GP} {x : Px} (h : Gp W s x) (hz : Gz s x) (hm : mayG s = true) (hr : s.role = 2) : Calls Tryz.prog 142 #[.agg (gc s x)] W fun e w' => ∃ x', e = .returned (.tuple #[.agg (gc s.adv x'), .int .i64 0]) ∧ Pg W.heap.size w' s.adv x' ∧ Bel W w' := by
 have hlf := lf_of hm hr
 have H1 : Hid (∀ W', Bel W W' → Calls Tryz.prog 42 #[.agg (gc s x)] W' fun e w' => e = .returned (.int .i64 0) ∧ Bel W' w') := jd (fun W' hb => by have := may_g (h.bel hb) hz; rwa [hm, if_pos rfl] at this)
 have H2 : Hid (∀ W', Bel W W' → Calls Tryz.prog 41 #[.agg (gc s x)] W' fun e w' => ∃ x', e = .returned (.agg (gc s x')) ∧ Pg W.heap.size w' s x' ∧ Bel W' w') := jd (fun W' hb => (clone_g (h.bel hb) hz.m hz.b (by have := hz.l; omega) hz.lm hz.v (by have := hz.f; omega) (by have := hz.r; omega) hz.ra).mono (fun _ _ ⟨x', he, hp, hb'⟩ => ⟨x', he, hp.mono hb.size, hb'⟩))
 have H3 : Hid (∀ W' x', Gp W' s x' → Calls Tryz.prog 72 #[.agg (gc s x')] W' fun e w' => e = .returned (.agg (gc s.adv x')) ∧ Bel W' w') := jd (fun W' x' hp => hlf.adv_call hp hz.base.1 (by have := hz.l; omega) (fun f hf => (hz.ft f hf).2.1))
 have e2 : (s.role == 2) = true := by simp [hr]
 clear h hz hm hr hlf
 go_enter Tryz.func142, Tryz.ntmps142
 go_wp2_with (first
  | go_skip
  | (refine bx_boxK 31 (.tmp 0) (by exact rfl) (by exact rfl) (gc s x) (by exact rfl) ?_; intro b w0 hr0 hs0 hb0; have HR0 := jd hr0; have HB0 := jd (aI hb0 hs0); clear hr0 hs0 hb0)
  | (refine bx_new rfl 31 rfl _ Tryz.zeroP ?_; intro b2 w1 hr1 hs1 hb1; have HY : Hid (TyG W w1 b b2 s x) := jd ⟨hb1.row (ju HR0), (ju HB0).1.trans hb1, ⟨_, _, hr1⟩, by have := (ju HB0).2; omega, by have := (ju HB0).1.size; omega, fun e => by have := lt_of_some (ju HR0); omega⟩; clear hr1 hs1 hb1 HR0 HB0)
  | (refine bx_ldK 31 (.tmp 1) (by exact rfl) b (by exact rfl) (by exact rfl) (gc s x) _ (ju HY).row u31 (zP _ _) ?_)
  | (refine bx_ldK 31 (.tmp 1) (by exact rfl) b (by exact rfl) (by exact rfl) _ _ (ju HZ).row u31 (zP _ _) ?_)
  | go_guarded
  | (go_at_call 42; refine ((ju H1) _ (ju HY).bel).mono ?_; rintro e w2 ⟨rfl, hb2⟩; replace HY := jd ((ju HY).next hb2); clear hb2)
  | (go_at_call 41; refine ((ju H2) _ (ju HY).bel).mono ?_; rintro e w3 ⟨x1, rfl, hf3, hb3⟩; have HF3 := jd hf3; replace HY := jd ((ju HY).next hb3); clear hb3 hf3)
  | (refine bx_st rfl 31 (.tmp 1) _ rfl b (gc s x1) _ rfl rfl (ju HY).row (zP _ _) rfl (gc_one _ _) ?_; intro w4 hr4 hc4; have y4 := (Bg.of hr4).c4; have HZ := jd ((ju HY).put (ju HF3) hr4 hc4); clear hr4 hc4 HY HF3)
  | (go_at_call 72; refine ((ju H3) _ _ (ju HZ).pg.gp).mono ?_; rintro e w5 ⟨rfl, hb5⟩; replace HZ := jd ((ju HZ).next hb5); clear hb5)
  | (refine bx_st rfl 31 (.tmp 1) _ rfl b (gc s.adv x1) _ rfl rfl (ju HZ).row (zP _ _) rfl (gc_one _ _) ?_; intro w6 hr6 hc6; replace HZ := jd ((ju HZ).put (ju HZ).pg.adv hr6 hc6); clear hr6 hc6)
  | (obtain ⟨s2, x2, h2⟩ := (ju HZ).row2; refine bx_st rfl 31 (.tmp 2) _ rfl b2 (gc s.adv x1) _ rfl rfl h2 (zP _ _) rfl (gc_one _ _) ?_; intro w9 hr9 hc9; have HR9 := jd (aI hr9 ((ju HZ).out h2 hc9)); clear hr9 hc9 h2))
 exact bodyPost_ret (res2 (p := 2) (q := 3) rfl u31 (zP _ _) (ju HR9).1 _ _ rfl rfl) rfl ⟨_, rfl, (ju HR9).2.1, (ju HR9).2.2⟩
set_option maxRecDepth 100000 in
theorem isf_g {W : World} {bl : Nat} {id : Int} (f : Int × Int × Int) (hl : W.cell? ⟨bl, 0, none⟩ = some (.int .i64 id)) : Calls Tryz.prog 186 #[.agg (encF f).toArray, .pointer (some ⟨bl, 0, none⟩)] W fun e w' => e = .returned (.bool (f.1 == id)) ∧ Bel W w' := by
 have hl2 := ((Bel.refl W).alloc (.cells #[.int .i64 f.1, .int .u64 f.2.1, .int .u64 f.2.2] 79)).cell hl
 unfold encF
 go_enter Tryz.func186, Tryz.ntmps186
 go_wp2_with fail
 go_ret
 exact ⟨rfl, (Bel.refl W).alloc _⟩
set_option maxRecDepth 100000 in
set_option maxHeartbeats 2000000 in
theorem fidx_g {W : World} {a : Option Addr} {F : List (Int × Int × Int)} {bl : Nat} {id : Int} (h : Sl E65 W a F) (cap : Nat) (hl : W.cell? ⟨bl, 0, none⟩ = some (.int .i64 id)) (hn : F.length ≤ 1000000) : Calls Tryz.prog 184 #[.slice a F.length cap, .func (.func 186) #[] #[.pointer (some ⟨bl, 0, none⟩)]] W fun e w' => ∃ i, e = .returned (.int .i64 i) ∧ ((i < 0 ∧ ∀ f ∈ F, f.1 ≠ id) ∨ ∃ (k : Nat) (f : Int × Int × Int), i = k ∧ F[k]? = some f ∧ f.1 = id ∧ ∀ j, j < k → ∀ g, F[j]? = some g → g.1 ≠ id) ∧ Bel W w' := by
 obtain ⟨g, off, hg, hR⟩ := h
 have HC : Hid (∀ (w : World) (f : Int × Int × Int) (c : Bool), Bel W w → (f.1 == id) = c → Calls Tryz.prog 186 #[.agg (encF f).toArray, .pointer (some ⟨bl, 0, none⟩)] w fun e w' => e = .returned (.bool c) ∧ Bel w w') := jd (fun w f c hb e => by rw [← e]; exact isf_g f (hb.cell hl))
 clear hl
 generalize hn2 : F.length = n at *
 have HN := jd hn2
 have HG := jd hg
 have HR := jd hR
 clear hn2 hg hR
 go_enter Tryz.func184, Tryz.ntmps184
 go_wp2_with fail
 go_loopw [8] (fun vk wr => ∃ (k : Nat), k ≤ n ∧ vk = .int .i64 k ∧ Hid (Bel W wr) ∧ Hid (∀ j, j < k → ∀ g, F[j]? = some g → g.1 ≠ id)) (fun vk _ => n - (intOf vk).toNat)
 case atStart => exact ⟨0, Nat.zero_le _, rfl, jd (Bel.refl _), jd (fun j h => absurd h (Nat.not_lt_zero _))⟩
 case round =>
  obtain ⟨k, hk, rfl, HB, HE⟩ := hrel
  by_cases hlt : k < n
  ·have hkl : k < F.length := by rw [ju HN]; exact hlt
   obtain rfl := (ju HG) (by omega)
   have hkn : (k : Int) < n := by omega
   obtain ⟨r0, r1, r2⟩ := E65_cell (ju HR) k hkl
   have r0 := (ju HB).cell r0
   have r1 := (ju HB).cell r1
   have r2 := (ju HB).cell r2
   have HK : Hid (F[k]? = some F[k]) := jd (List.getElem?_eq_getElem hkl)
   have HC2 := jd ((ju HC) wr F[k])
   unfold encF at HC2
   generalize F[k] = f at *
   cases hd : (f.1 == id) with
   | true =>
    have HC3 := jd ((ju HC2) true (ju HB) hd)
    have HF := jd (eq_of_beq hd)
    clear hd HC2
    go_wp2_with (first
     | (go_at_call 186; refine (ju HC3).mono ?_; rintro e w3 ⟨rfl, hb3⟩; have HB3 := jd ((ju HB).trans hb3); clear hb3))
    go_ret
    exact ⟨_, rfl, Or.inr ⟨k, f, rfl, ju HK, ju HF, ju HE⟩, ju HB3⟩
   | false =>
    have HC3 := jd ((ju HC2) false (ju HB) hd)
    have HF := jd (beq_eq_false_iff_ne.1 hd)
    clear hd HC2
    go_wp2_with (first
     | (go_at_call 186; refine (ju HC3).mono ?_; rintro e w3 ⟨rfl, hb3⟩; have HB3 := jd ((ju HB).trans hb3); clear hb3))
    go_roundw
    case rel => exact ⟨k + 1, by omega, by go_num, HB3, jd (fun j hj y hy => by
     by_cases e : j = k
     ·subst e
      have := ju HK
      rw [this] at hy
      obtain rfl := Option.some.inj hy
      exact ju HF
     ·exact (ju HE) j (by omega) y hy)⟩
    case measure => simp [intOf]; omega
  ·obtain rfl : k = n := by omega
   go_wp2_with fail
   go_ret
   exact ⟨_, rfl, Or.inl ⟨by decide, fun f hf => by
    obtain ⟨j, hj, e⟩ := List.getElem_of_mem hf
    exact (ju HE) j (by have := ju HN; omega) f (by rw [List.getElem?_eq_getElem hj, e])⟩, ju HB⟩
set_option maxRecDepth 100000 in
theorem followAt_g {W : World} {s : GP} {x : Px} (h : Sl E65 W x.aF s.fol) (id : Int) (hn : s.fol.length ≤ 1000000) : Calls Tryz.prog 146 #[.agg (gc s x), .int .i64 id] W fun e w' => ∃ i, e = .returned (.int .i64 i) ∧ ((i < 0 ∧ ∀ f ∈ s.fol, f.1 ≠ id) ∨ ∃ (k : Nat) (f : Int × Int × Int), i = k ∧ s.fol[k]? = some f ∧ f.1 = id ∧ ∀ j, j < k → ∀ g, s.fol[j]? = some g → g.1 ≠ id) ∧ Bel W w' := by
 have HC : Hid (∀ (W' : World) (bl : Nat), Bel W W' → W'.cell? ⟨bl, 0, none⟩ = some (.int .i64 id) → Calls Tryz.prog 184 #[.slice x.aF s.fol.length x.cF, .func (.func 186) #[] #[.pointer (some ⟨bl, 0, none⟩)]] W' fun e w' => ∃ i, e = .returned (.int .i64 i) ∧ ((i < 0 ∧ ∀ f ∈ s.fol, f.1 ≠ id) ∨ ∃ (k : Nat) (f : Int × Int × Int), i = k ∧ s.fol[k]? = some f ∧ f.1 = id ∧ ∀ j, j < k → ∀ g, s.fol[j]? = some g → g.1 ≠ id) ∧ Bel W' w') := jd (fun W' bl hb hc => fidx_g (h.bel hb) x.cF hc hn)
 generalize hfn : s.fol.length = fn at *
 clear h
 go_enter Tryz.func146, Tryz.ntmps146
 go_wp2_with (first
  | (refine bx_box rfl 31 _ rfl (gc s x) rfl ?_; intro b w0 hr0 hs0 hb0; have y15 := ((Bel.refl w0).alloc (.cells #[.int .i64 id] 3)).cell (Bg.of hr0).c15; rw [hfn] at y15; have hcl : (w0.alloc (.cells #[.int .i64 id] 3)).cell? ⟨w0.heap.size, 0, none⟩ = some (.int .i64 id) := cell_of (at_new w0 _); have HCL := jd hcl; have HB0 := jd (hb0.alloc (.cells #[.int .i64 id] 3)); clear hr0 hs0 hb0 hcl)
  | (go_at_call 184; refine ((ju HC) _ _ (ju HB0) (ju HCL)).mono ?_; rintro e w1 ⟨i, rfl, hi, hb1⟩; have HF := jd (aI hi ((ju HB0).trans hb1)); clear hi hb1))
 go_ret
 exact ⟨_, rfl, (ju HF).1, (ju HF).2⟩
end Go.Proofs.YthekbhliokcpcaaGreat
namespace Go.Proofs.YthekbhliokcpcaaGreat
open Go.RowKit Go.Maps Go.Sort
def place (id : Int) (l : List Int) : Nat := l.countP (· < id)
structure Pn (mid : Nat) (W : World) (s : GP) (x : Px) : Prop where
 b : E3.O mid W (.slice x.aB s.B.length x.cB) s.B
 l : ∃ L, Ll mid W x.aL x.cL s.log L
 v : E3.O mid W (.slice x.aV s.votes.length x.cV) s.votes
 f : E65.O mid W (.slice x.aF s.fol.length x.cF) s.fol
 r : ∃ L : List (GR × GA), L.map (·.1) = s.reads ∧ ER.O mid W (.slice x.aR s.reads.length x.cR) L ∧ ∀ y ∈ L, E3.O mid W (.slice y.2.a y.1.a.length y.2.c) y.1.a
structure Pm (base : Nat) (W : World) (s : GP) (x : Px) : Prop where
 m : E3.O base W (.slice x.aM s.M.length x.cM) s.M
 sep : ∃ mid, base ≤ mid ∧ (∀ k, (Value.slice x.aM s.M.length x.cM).ownBlock = some k → k < mid) ∧ Pn mid W s x
 dv : ∀ k j, (Value.slice x.aV s.votes.length x.cV).ownBlock = some k → (Value.slice x.aM s.M.length x.cM).ownBlock = some j ∨ (Value.slice x.aB s.B.length x.cB).ownBlock = some j → j < k
theorem Ll.mono {base base' : Nat} {W : World} {a : Option Addr} {c : Nat} {l : List GE} {L : List (GE × GA)} (h : Ll base W a c l L) (hb : base' ≤ base) : Ll base' W a c l L := ⟨h.map, h.row.mono hb, fun y hy => (h.own y hy).mono hb⟩
theorem Pn.mono {mid mid' : Nat} {W : World} {s : GP} {x : Px} (h : Pn mid W s x) (hb : mid' ≤ mid) : Pn mid' W s x := ⟨h.b.mono hb, by obtain ⟨L, hl⟩ := h.l; exact ⟨L, hl.mono hb⟩, h.v.mono hb, h.f.mono hb, by obtain ⟨L, h1, h2, h3⟩ := h.r; exact ⟨L, h1, h2.mono hb, fun y hy => (h3 y hy).mono hb⟩⟩
theorem Pm.pg {base : Nat} {W : World} {s : GP} {x : Px} (h : Pm base W s x) : Pg base W s x := by
 obtain ⟨mid, h1, h2, h3⟩ := h.sep
 have h4 := h3.mono h1
 exact ⟨h.m, h4.b, h4.l, h4.v, h4.f, h4.r, h.dv⟩
theorem any_vc {ops : Array Oper} {Q : Exit → Act → World → Prop} {md : Region.Mode} {S : World → Prop} {i j : Nat} {o o' : Oper} {fuel : Nat} {listed : Array Bool} {a : Act} {w : World} {v : Value} {f : FuncId} {args : Array Value} {R : Ending → World → Prop} (hr : Region.ready md ops listed = [i, j]) (hi : ops[i]? = some o) (hj : ops[j]? = some o') (hwi : Region.wanted o (yielded ops a.tmps) = true) (hwj : Region.wanted o' (yielded ops a.tmps) = true) (hi2 : (execOp a.eval o).run Tryz.prog w = .ok (.value v) w) (hj2 : (execOp a.eval o').run Tryz.prog w = .ok (.enter f args) w) (hc : Calls Tryz.prog f args w R)
  (hKi : S w ∧ wpAnyH Tryz.prog md ops Q S fuel (listed.setIfInBounds i true) (a.put o.dst v) w) (hKj : ∀ e w', R e w' → ∃ u, e = .returned u ∧ S w' ∧ wpAnyH Tryz.prog md ops Q S fuel (listed.setIfInBounds j true) (a.put o'.dst u) w') : wpAnyH Tryz.prog md ops Q S (fuel + 1) listed a w := by
 refine wpAnyH_all hr (by simp) (fun k hk => ?_)
 rcases List.mem_cons.1 hk with rfl | hk
 ·unfold wpOp
  simp only [hi, hwi, if_true, Oper.wp, hi2, Oper.upon_value]
  exact .inl hKi
 ·rw [List.mem_singleton.1 hk]
  unfold wpOp
  simp only [hj, hwj, if_true, Oper.wp, hj2, Oper.upon_enter]
  refine .inl (hc.mono ?_)
  intro e w' he
  obtain ⟨u, rfl, h1, h2⟩ := hKj e w' he
  exact ⟨h1, h2⟩
theorem any_vv {ops : Array Oper} {Q : Exit → Act → World → Prop} {md : Region.Mode} {S : World → Prop} {i j : Nat} {o o' : Oper} {fuel : Nat} {listed : Array Bool} {a : Act} {w : World} {vi vj : Value} {wi wj : World} (hr : Region.ready md ops listed = [i, j]) (hi : ops[i]? = some o) (hj : ops[j]? = some o') (hwi : Region.wanted o (yielded ops a.tmps) = true) (hwj : Region.wanted o' (yielded ops a.tmps) = true) (hi2 : (execOp a.eval o).run Tryz.prog w = .ok (.value vi) wi) (hj2 : (execOp a.eval o').run Tryz.prog w = .ok (.value vj) wj)
  (hKi : S wi ∧ wpAnyH Tryz.prog md ops Q S fuel (listed.setIfInBounds i true) (a.put o.dst vi) wi) (hKj : S wj ∧ wpAnyH Tryz.prog md ops Q S fuel (listed.setIfInBounds j true) (a.put o'.dst vj) wj) : wpAnyH Tryz.prog md ops Q S (fuel + 1) listed a w := by
 refine wpAnyH_all hr (by simp) (fun k hk => ?_)
 rcases List.mem_cons.1 hk with rfl | hk
 ·unfold wpOp
  simp only [hi, hwi, if_true, Oper.wp, hi2, Oper.upon_value]
  exact .inl hKi
 ·rw [List.mem_singleton.1 hk]
  unfold wpOp
  simp only [hj, hwj, if_true, Oper.wp, hj2, Oper.upon_value]
  exact .inl hKj
theorem app_run {a : Act} {o : Oper} {w w' : World} {t : TypeId} {x y : Operand} {v u v' : Value} (ho : o.op = .call { callee := .builtin .append, args := #[x, y], argTypes := #[t, t] }) (hx : a.eval x = v) (hy : a.eval y = u) (hrun : (Builtin.append_ #[t, t] o.type #[v, u]).run Tryz.prog w = .ok v' w') : (execOp a.eval o).run Tryz.prog w = .ok (.value v') w' := by
 unfold execOp
 simp only [ho, resolve, invoke, builtin, Sem.run_bind, Sem.run_pure, Result.andThen_ok, List.map_toArray, List.map_cons, List.map_nil, hx, hy, hrun]
end Go.Proofs.YthekbhliokcpcaaGreat
