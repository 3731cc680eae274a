/- What a majority has. -/
import Derived.Test.YthekbhliokcpcaaGreatLtr
namespace Go.Proofs.YthekbhliokcpcaaGreat
open Go.RowKit Go.Maps Go.Sort
/-- How mostHave stands: the member's box, the row of indices. -/
structure Mh (W wr : World) (b n : Nat) (s : PP) (x : Px) (v : Value) (L : List Int) : Prop where
  row : wr.heap[b]? = some (.cells (pc n s x) 31)
  bel : Bel W wr
  o : E26.O W.heap.size wr v L
section
variable {W wr w' : World} {b n : Nat} {s : PP} {x : Px} {v v' : Value} {L L' : List Int}
theorem Mh.next (h : Mh W wr b n s x v L) (hb : Bel wr w') : Mh W w' b n s x v L := ⟨hb.row h.row, h.bel.trans hb, h.o.bel hb⟩
theorem Mh.app (h : Mh W wr b n s x v L) (ho : E26.O W.heap.size w' v' L') (hg : wr.grownBy w' v.ownBlock) : Mh W w' b n s x v' L' :=
  ⟨row_grown h.row h.o hg (by decide), (((h.bel.ch (fun i => W.heap.size ≤ i)).grown hg (fun k hk => Or.inl (h.o.lt hk).1)).below (Nat.le_refl _) (fun _ hi => hi)), ho⟩
end
theorem E26_cell {base : Nat} {W : World} {g m cap : Nat} {L : List Int} (h : E26.O base W (.slice (some ⟨g, 0, none⟩) m cap) L) (hm : m = L.length) (j : Nat) (hj : j < L.length) : W.cell? ⟨g, j, none⟩ = some (.int .u64 (L.getD j 0)) := by
  subst hm
  have := h.row j hj 0 _ rfl
  rw [show E26.k = 1 from rfl, Nat.mul_one, Nat.add_zero, Nat.zero_add] at this
  rw [this]
  simp [List.getD, List.getElem?_eq_getElem hj]
def MhR (W : World) (b n : Nat) (s : PP) (x : Px) (no : Nat) (vi vu : Value) (wr : World) : Prop := ∃ (k : Nat) (g cap : Nat) (L : List Int), k ≤ no ∧ vi = .int .i64 k ∧ vu = .slice (some ⟨g, 0, none⟩) L.length cap ∧ Hid (L = s.lastI :: (s.fol.take k).map (·.2.2)) ∧ Hid (Mh W wr b n s x (.slice (some ⟨g, 0, none⟩) L.length cap) L)
set_option maxRecDepth 100000 in
set_option maxHeartbeats 2000000 in
theorem most_any {W : World} {n : Nat} {s : PP} {x : Px} (hm : Sl E3 W x.aM (mem n)) (hl : Sl E69 W x.aL s.log) (hf : Sl E65 W x.aF s.fol) (hn : n ≤ 64) (hid : s.id ∈ mem n) (hlen : s.log.length ≤ 1000000) (hfl : s.fol.length ≤ 64) : Calls Tryz.prog 130 #[.agg (pc n s x)] W fun e w' => e = .returned (.int .u64 (most s.have)) ∧ Bel W w' := by
  have HC : Hid (∀ w1, Bel W w1 → Calls Tryz.prog 82 #[.slice x.aM n x.cM, .int .i64 s.id] w1 fun e w' => e = .returned (.bool true) ∧ w' = w1) := hide (fun w1 hb => by
    have := contains_any (hm.bel hb) x.cM s.id (by rw [mem_len]; omega)
    rwa [mem_len, decide_eq_true hid] at this)
  have HL : Hid (∀ w1, Bel W w1 → Calls Tryz.prog 79 #[.agg (pc n s x)] w1 fun e w' => ∃ t, e = .returned (.tuple #[.int .u64 s.lastI, .int .u64 t]) ∧ Bel w1 w') := hide (fun w1 hb => (last_any (hl.bel hb) hlen).mono (fun _ _ ⟨he, hb'⟩ => ⟨_, he, hb'⟩))
  have HF := hide hf
  have HFL := hide hfl
  clear hm hl hf hn hid hlen hfl
  go_enter Tryz.func130, Tryz.ntmps130
  go_wp2_with (first
    | go_skip
    | go_guarded
    | (refine bx_box rfl 31 _ rfl (pc n s x) rfl ?_; intro b w0 hr0 hs0 hb0; have y0 := (Bx.of hr0).c0; have y1 := (Bx.of hr0).c1; have HM : Hid (Mh W w0 b n s x (.slice none 0 0) []) := hide ⟨hr0, hb0, El.O.nil _ _⟩; clear hr0 hs0 hb0)
    | (go_at_call 82; refine ((unhide HC) _ (unhide HM).bel).mono ?_; rintro e w1 ⟨rfl, hw1⟩; rw [hw1]; clear hw1)
    | (refine bx_ldG rfl 31 _ rfl b rfl (pc n s x) _ (unhide HM).row Tryz.underlying31 (Tryz.size32 _ _ _) ?_)
    | (go_at_call 79; refine ((unhide HL) _ (unhide HM).bel).mono ?_; rintro e w2 ⟨t, rfl, hb2⟩; replace HM := hide ((unhide HM).next hb2); have z15 := (Bx.of (unhide HM).row).c15; clear hb2)
    | (at_builtin; refine app1_el (E := E26) s.lastI [s.lastI] rfl ((unhide HM).next ((Bel.refl _).alloc _)).o ((unhide HM).next ((Bel.refl _).alloc _)).bel.size _ _ (at_new _ _) (by simp) rfl _ _ 199 rfl rfl rfl rfl ?_; intro g cap w4 ho4 hg4 hat4; replace HM := hide (((unhide HM).next ((Bel.refl _).alloc _)).app ho4 hg4); have y15 := (Bx.of (unhide HM).row).c15; clear ho4 hg4 hat4))
  clear y0 y1 y15
  generalize hno : s.fol.length = no at *
  have HNO := hide hno
  have hno64 : no ≤ 64 := unhide HFL
  clear hno
  go_loopw [25, 3] (MhR W b n s x no) (fun vi _ _ => no - (intOf vi).toNat)
  case atStart => exact ⟨0, g, cap, [s.lastI], Nat.zero_le _, rfl, rfl, hide rfl, HM⟩
  case round =>
    obtain ⟨k, g2, cap2, L, hk, rfl, rfl, HLk, HMr⟩ := hrel
    by_cases hlt : k < no
    · have hkn : (k : Int) < no := by omega
      have hkl : k < s.fol.length := by rw [unhide HNO]; exact hlt
      obtain ⟨gf, off, hgf, hR⟩ := (unhide HF).bel (unhide HMr).bel
      have ea := hgf (by omega)
      obtain ⟨r0, r1, r2⟩ := E65_cell hR k hkl
      obtain ⟨L', hL'⟩ : ∃ L', L' = L ++ [s.fol[k].2.2] := ⟨_, rfl⟩
      have HL2 : Hid (L' = s.lastI :: (s.fol.take (k + 1)).map (·.2.2)) := hide (by
        rw [hL', unhide HLk, List.take_add_one, List.getElem?_eq_getElem hkl, List.map_append]; rfl)
      have HL' := hide hL'
      have HLL : Hid (L.length ≤ 65) := hide (by rw [unhide HLk]; simp; have := unhide HFL; omega)
      rw [ea]
      generalize s.fol[k].2.2 = mt at *
      generalize s.fol[k].2.1 = nx at *
      generalize s.fol[k].1 = fi at *
      clear hgf hR hL' ea
      go_wp2_with (first
        | go_skip
        | go_guarded
        | (at_builtin; refine app1_el (E := E26) mt L' (unhide HL') ((unhide HMr).next (((Bel.refl _).alloc _).alloc _)).o ((unhide HMr).next (((Bel.refl _).alloc _).alloc _)).bel.size _ _ (at_new2 _ _ _) (by have := unhide HLL; omega) rfl _ _ 199 rfl rfl rfl rfl ?_; intro g4 cap4 w4 ho4 hg4 hat4; have HM4 := hide (((unhide HMr).next (((Bel.refl _).alloc _).alloc _)).app ho4 hg4); clear ho4 hg4 hat4))
      go_roundw
      case rel =>
        have hfin : ∀ v u : Value, v = .int .i64 ((k + 1 : Nat) : Int) → u = .slice (some ⟨g4, 0, none⟩) L'.length cap4 → MhR W b n s x no v u w4 := fun v u hv hu => ⟨k + 1, g4, cap4, L', by omega, hv, hu, HL2, HM4⟩
        first
          | exact hfin _ _ (by go_num) rfl
          | ((repeat apply Exists.intro); exact ⟨hfin _ _ (by go_num) rfl, rfl, rfl⟩)
      case measure => simp [intOf]; omega
    · obtain rfl : k = no := by omega
      have hLL : L = s.have := by rw [unhide HLk, List.take_of_length_le (by rw [unhide HNO]; omega)]; rfl
      have hl0 : L.length ≤ 65 := by rw [hLL]; simp [PP.have]; have := unhide HNO; omega
      have hl1 : 0 < L.length := by rw [hLL]; simp [PP.have]
      have HS : Hid (∀ w1, E26.O W.heap.size w1 (.slice (some ⟨g2, 0, none⟩) L.length cap2) L → Calls Tryz.prog 171 #[.slice (some ⟨g2, 0, none⟩) L.length cap2, .func (.func 172) #[] #[]] w1 fun e w' => e = .returned (.tuple #[]) ∧ E26.O W.heap.size w' (.slice (some ⟨g2, 0, none⟩) L.length cap2) (srtD L) ∧ Ch (fun i => i = g2) w1 w') := hide (fun w1 h1 => sort_U _ g2 cap2 L w1 h1 (by omega))
      have HLS := hide hLL
      have HO := hide (unhide HMr).o
      have HBR := hide (unhide HMr).bel
      obtain ⟨j, hj⟩ : ∃ j, j = L.length / 2 := ⟨_, rfl⟩
      have hdt : Int.tdiv (L.length : Int) 2 = (j : Int) := by rw [Int.tdiv_eq_ediv_of_nonneg (by omega)]; omega
      have HJ : Hid (j < L.length ∧ j = L.length / 2) := hide ⟨by omega, hj⟩
      have hlt2 : (j : Int) < L.length := by omega
      clear hLL hj hl1 HMr
      generalize hm : L.length = m at *
      have HMM := hide hm
      clear hm hlt hk
      go_wp2_with (first
        | go_skip
        | go_guarded
        | (go_at_call 171; refine ((unhide HS) _ (unhide HO)).mono ?_; rintro e w6 ⟨rfl, ho6, hc6⟩; have HB6 := hide (bel_off (unhide HBR) hc6 ((unhide HO).lt (k := g2) rfl).1); have z6 : w6.cell? ⟨g2, j, none⟩ = some (.int .u64 (most s.have)) := (by rw [E26_cell ho6 (by rw [srtD_len]; exact (unhide HMM).symm) j (by rw [srtD_len, unhide HMM]; exact (unhide HJ).1)]; unfold most; rw [← unhide HLS, unhide HMM, ← (unhide HJ).2]); clear ho6 hc6))
      go_ret
      exact ⟨rfl, unhide HB6⟩
end Go.Proofs.YthekbhliokcpcaaGreat
