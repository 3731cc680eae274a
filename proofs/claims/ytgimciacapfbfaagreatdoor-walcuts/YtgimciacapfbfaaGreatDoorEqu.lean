/- Two maps of files held against each other; a map of files copied: maps.Equal and maps.Clone. -/
import Derived.Test.YtgimciacapfbfaaGreatDoorCop
import Derived.Shelf.SlMaps.Clone
namespace Go.Proofs.YtgimciacapfbfaaGreatDoor
open Go.RowKit Go.Maps Go.WideMaps Go.Sort
theorem sub_step {x y : List UInt8 × List UInt8} {a b : Fs} (ha : srt (x :: a)) (hb : srt (y :: b)) (h : ∀ z ∈ x :: a, z ∈ y :: b) : (x = y ∧ ∀ z ∈ a, z ∈ b) ∨ ∀ z ∈ x :: a, z ∈ b := by
  obtain ⟨ha1, _⟩ := List.pairwise_cons.1 ha
  obtain ⟨hb1, _⟩ := List.pairwise_cons.1 hb
  rcases List.mem_cons.1 (h x (by simp)) with e | hx
  · subst e
    refine Or.inl ⟨rfl, fun z hz => ?_⟩
    rcases List.mem_cons.1 (h z (List.mem_cons_of_mem _ hz)) with e | h'
    · subst e; exact absurd (ha1 z hz) (bb_irr _)
    · exact h'
  · refine Or.inr fun z hz => ?_
    rcases List.mem_cons.1 hz with e | hz'
    · rw [e]; exact hx
    · rcases List.mem_cons.1 (h z hz) with e | h'
      · subst e; exact absurd (WideShapes.bytes_trans _ _ _ (ha1 z hz') (hb1 x hx)) (bb_irr _)
      · exact h'
theorem sub_len : ∀ (m l : Fs), srt l → srt m → (∀ z ∈ l, z ∈ m) → l.length ≤ m.length
  | _, [], _, _, _ => Nat.zero_le _
  | [], x :: _, _, _, h => by have := h x (by simp); simp at this
  | y :: b, x :: a, ha, hb, h => by
    rcases sub_step ha hb h with ⟨_, h'⟩ | h'
    · have := sub_len b a (List.pairwise_cons.1 ha).2 (List.pairwise_cons.1 hb).2 h'
      simp; omega
    · have := sub_len b (x :: a) ha (List.pairwise_cons.1 hb).2 h'
      simp at this ⊢; omega
theorem sub_eq : ∀ (m l : Fs), srt l → srt m → (∀ z ∈ l, z ∈ m) → l.length = m.length → l = m
  | [], [], _, _, _, _ => rfl
  | _ :: _, [], _, _, _, h => by simp at h
  | [], _ :: _, _, _, _, h => by simp at h
  | y :: b, x :: a, ha, hb, h, hl => by
    rcases sub_step ha hb h with ⟨e, h'⟩ | h'
    · rw [e, sub_eq b a (List.pairwise_cons.1 ha).2 (List.pairwise_cons.1 hb).2 h' (by simpa using hl)]
    · have := sub_len b (x :: a) ha (List.pairwise_cons.1 hb).2 h'
      simp at this hl
      omega
set_option maxRecDepth 100000 in
theorem mclone_any (b : Nat) (l : Fs) (w : World) (h : Mp w b l) :
    Calls Tryz.prog 33 #[.map (some b)] w fun e w' => e = .returned (.map (some w.heap.size)) ∧ Mp w' w.heap.size l ∧ Bel w w' := by
  obtain ⟨es, clock, hb, F, hs, hD⟩ := h
  have hq := fun w => run_eql_map_nil_sl (P := Tryz.prog) w 47 _ _ (some b) Tryz.underlying47
  have HF := hide F
  have HS := hide hs
  have HD := hide hD
  clear F hs hD
  go_enter Tryz.func33, Tryz.ntmps33
  go_wp2
  rw [run_callFunc_extern Tryz.func54 (by kernel_rfl) (by kernel_rfl) (by kernel_rfl) (e := Extern.MapsClone.clone) (by kernel_rfl), run_maps_clone_sl w 47 hb]
  simp only [Result.andThen]
  rw [Oper.upon_value]
  go_wp2
  rw [run_typeAssert_map_sl _ 47 _ _ _ _ Tryz.underlying47]
  simp only [Result.andThen]
  rw [Oper.upon_value]
  go_wp2
  go_ret
  exact ⟨rfl, ⟨es, clock, (MapKept.heap_alloc w _).1, unhide HF, unhide HS, unhide HD⟩, (Bel.refl w).alloc _⟩
theorem come_sub {l m : Fs} {left : Lit → Bool} {x : List UInt8} (hs : srt l) (hx : hasF l x = true) (hl : left (.string x) = true) (hm : hasF m x = true) (he : get l x = get m x) (h : ∀ p ∈ come l left, p ∈ m) : ∀ p ∈ come l (fun z => left z && !z.sameKey (.string x)), p ∈ m := by
  obtain ⟨hst, _⟩ := come_step hs hx hl
  rw [hst]
  intro p hp
  rcases mem_fins.1 hp with rfl | hp
  · rw [he]; exact get_mem hm
  · exact h p (mem_del.1 hp).1
set_option maxRecDepth 100000 in
set_option maxHeartbeats 2000000 in
theorem equal_any (b1 b2 : Nat) (l m : Fs) (w : World) (h1 : Mp w b1 l) (h2 : Mp w b2 m) (hs1 : srt l) (hs2 : srt m) (hnm : ∀ p ∈ l, okN p.1) :
    Calls Tryz.prog 35 #[.map (some b1), .map (some b2)] w fun e w' => e = .returned (.bool (decide (l = m))) ∧ Bel w w' := by
  have l1 : ∀ ty, (Builtin.len_ #[47] ty #[.map (some b1)]).run Tryz.prog w = .ok (.int .i64 l.length) w := fun ty => by have := World.ownsMap.len (t := 47) h1 Tryz.underlying47 ty; rw [fD_size] at this; exact this
  have l2 : ∀ ty, (Builtin.len_ #[47] ty #[.map (some b2)]).run Tryz.prog w = .ok (.int .i64 m.length) w := fun ty => by have := World.ownsMap.len (t := 47) h2 Tryz.underlying47 ty; rw [fD_size] at this; exact this
  have HM1 := hide h1
  have HM2 := hide h2
  have hbl1 := h1.lt
  have hbl2 := h2.lt
  have HS1 := hide hs1
  have HS2 := hide hs2
  have HNM := hide hnm
  clear h1 h2 hs1 hs2 hnm
  by_cases hsz : l.length = m.length
  · have hszi : (l.length : Int) = (m.length : Int) := by omega
    have HSZ := hide hsz
    clear hsz
    go_enter Tryz.func35, Tryz.ntmps35
    go_wp2_with (first
      | (at_range; refine wpList_range_own _ rfl _ 47 rfl 9 70 law9 Tryz.underlying47 fileE b1 l.length _ rfl (unhide HM1) ?_; intro w0 hrg0 hg0 hs0)
      | go_in)
    go_frame
    go_loopw [17] (fun _ wr => ∃ (left : Lit → Bool) (cnt : Nat), (∀ p ∈ come l left, p ∈ m) ∧ wr.ranges Tryz.prog 9 fileE b1 w.heap.size l.length (fD l) left cnt ∧ Bel w wr)
      (fun _ wr => wr.rangeLeft b1 w.heap.size)
    case atStart => exact ⟨_, _, by rw [come_start]; simp, hrg0, hg0.os, hg0.tape, hg0.output, hg0.size, fun k hk => hg0.block k hk (by simp)⟩
    case round =>
      obtain ⟨left, cnt, hsub, hrg, hnx⟩ := hrel
      have HSUB := hide hsub
      clear hsub
      go_wp2_with (first
        | (at_next; refine wpList_next_ranges _ rfl _ rfl 9 law9 fileE (fun x : List UInt8 => Value.string ⟨x.toArray⟩) (fun x : List UInt8 => Value.agg #[.string ⟨x.toArray⟩]) inv_key inv_file b1 w.heap.size l.length _ _ _ rfl hrg ?_ ?_)
        | go_in)
      · intro hc0 hl0
        have hfin : l = m := sub_eq m l (unhide HS1) (unhide HS2) (by have := unhide HSUB; rw [come_end l left hl0] at this; exact this) (unhide HSZ)
        have HFIN := hide hfin
        clear hfin
        go_wp2_with fail
        go_ret
        exact ⟨by rw [decide_eq_true (unhide HFIN)]; rfl, hnx⟩
      · intro x c kl yd yp w2 cnt2 hkey hlk hv hat hrg2 hlt hg2 hs2 hen
        obtain ⟨rfl, rfl, hh⟩ := next_file hkey hv hat
        have hb2 : Bel w w2 := Below.grown hnx hg2 hnx.size (fun j hj => by cases hj; exact Nat.le_refl _)
        have hxl : x.length ≤ maxLen := by have := ((unhide HNM) _ (get_mem hh)).2; unfold maxLen; simp at this; omega
        have HK := hide hkey
        have HH := hide hh
        have HLK := hide hlk
        clear hs2 hkey hh hlk hv hat
        cases hmx : hasF m x
        · have hbad : l ≠ m := fun e => by have := unhide HH; rw [e, hmx] at this; cases this
          have HBAD := hide hbad
          clear hbad
          go_wp2_with (first
            | (at_lookup; refine wpList_look_ok _ rfl _ _ rfl b2 m rfl ((unhide HM2).bel (hb2.alloc _)) x hxl rfl ?_; rw [hmx])
            | go_in)
          go_ret
          exact ⟨by rw [decide_eq_false (unhide HBAD)]; rfl, (hb2.alloc _).alloc _⟩
        · by_cases he : get l x = get m x
          · have hq := hide (come_sub (left := left) (unhide HS1) (unhide HH) (unhide HLK) hmx he (unhide HSUB))
            rw [he]
            have HE := hide he
            clear he
            go_wp2_with (first
              | (at_lookup; refine wpList_look_ok _ rfl _ _ rfl b2 m rfl ((unhide HM2).bel (hb2.alloc _)) x hxl rfl ?_; rw [hmx])
              | go_in)
            have hrg3 := (hrg2.alloc (.cells #[.string ⟨(get m x).toArray⟩] 70)).alloc (.cells #[.string ⟨(get m x).toArray⟩] 70)
            refine ⟨⟨_, cnt2, unhide hq, hrg3, (hb2.alloc _).alloc _⟩, ?_⟩
            rw [hrg3.left_eq, hrg.left_eq]
            exact hlt
          · have hbad : l ≠ m := fun e => he (by rw [e])
            have HBAD := hide hbad
            clear hbad
            go_wp2_with (first
              | (at_lookup; refine wpList_look_ok _ rfl _ _ rfl b2 m rfl ((unhide HM2).bel (hb2.alloc _)) x hxl rfl ?_; rw [hmx])
              | go_in)
            go_ret
            exact ⟨by rw [decide_eq_false (unhide HBAD)]; rfl, (hb2.alloc _).alloc _⟩
  · have hne : ¬ ((l.length : Int) = (m.length : Int)) := by omega
    have hbad : l ≠ m := fun e => hsz (by rw [e])
    have HBAD := hide hbad
    clear hbad hsz
    go_enter Tryz.func35, Tryz.ntmps35
    go_wp2_with fail
    go_ret
    exact ⟨by rw [decide_eq_false (unhide HBAD)]; rfl, Bel.refl w⟩
end Go.Proofs.YtgimciacapfbfaaGreatDoor
