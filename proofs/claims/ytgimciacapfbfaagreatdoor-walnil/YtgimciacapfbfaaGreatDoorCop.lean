/- One map of files made the same as another; how many bytes all files have: the program's lay and total. -/
import Derived.Test.YtgimciacapfbfaaGreatDoorGro
import Derived.Sort.KeysCollected
namespace Go.Proofs.YtgimciacapfbfaaGreatDoor
open Go.RowKit Go.Maps Go.WideMaps Go.Sort
theorem bb_irr (a : List UInt8) : ¬ bytesBefore a a = true := by rw [WideAt.bytes_irrefl]; simp
theorem srt_ext : ∀ (a b : Fs), srt a → srt b → (∀ x, x ∈ a ↔ x ∈ b) → a = b
  | [], [], _, _, _ => rfl
  | [], y :: b, _, _, h => by have := (h y).2 (by simp); simp at this
  | x :: a, [], _, _, h => by have := (h x).1 (by simp); simp at this
  | x :: a, y :: b, ha, hb, h => by
    obtain ⟨ha1, ha2⟩ := List.pairwise_cons.1 ha
    obtain ⟨hb1, hb2⟩ := List.pairwise_cons.1 hb
    have hxy : x = y := by
      rcases List.mem_cons.1 ((h x).1 (by simp)) with h1 | h1
      · exact h1
      · rcases List.mem_cons.1 ((h y).2 (by simp)) with h2 | h2
        · exact h2.symm
        · exact absurd (WideShapes.bytes_trans _ _ _ (hb1 x h1) (ha1 y h2)) (bb_irr _)
    subst hxy
    rw [srt_ext a b ha2 hb2 (fun z => ⟨fun hz => ?_, fun hz => ?_⟩)]
    · rcases List.mem_cons.1 ((h z).1 (List.mem_cons_of_mem _ hz)) with h1 | h1
      · rw [h1] at hz; exact absurd (ha1 x hz) (bb_irr _)
      · exact h1
    · rcases List.mem_cons.1 ((h z).2 (List.mem_cons_of_mem _ hz)) with h1 | h1
      · rw [h1] at hz; exact absurd (hb1 x hz) (bb_irr _)
      · exact h1
theorem tot_filter (f : List UInt8 × List UInt8 → Bool) (l : Fs) : tot (l.filter f) ≤ tot l := by
  induction l with
  | nil => exact Nat.le_refl _
  | cons y r ih =>
    rw [List.filter_cons]
    split
    · rw [tot, tot]; omega
    · rw [tot]; omega
/-- The files that have come. -/
def come (l : Fs) (left : Lit → Bool) : Fs := l.filter (fun p => !left (.string p.1))
theorem come_start (l : Fs) : come l (Maps.has (fD l)) = [] := by
  unfold come
  rw [List.filter_eq_nil_iff]
  intro p hp
  rw [fD_has]
  have : hasF l p.1 = true := List.any_eq_true.2 ⟨p, hp, by simp⟩
  simp [this]
theorem come_end (l : Fs) (left : Lit → Bool) (h : ∀ k, left k = false) : come l left = l := by
  unfold come
  exact List.filter_eq_self.2 (fun p _ => by simp [h])
theorem get_mem {l : Fs} {x : List UInt8} (h : hasF l x = true) : (x, get l x) ∈ l := by
  induction l with
  | nil => simp [hasF] at h
  | cons y r ih =>
    rw [get_cons]
    by_cases hy : y.1 = x
    · simp [hy]
      left
      rw [← hy]
    · simp [hy]
      right
      exact ih (by simpa [hasF, hy] using h)
theorem one_of {l : Fs} (hs : srt l) {p q : List UInt8 × List UInt8} (hp : p ∈ l) (hq : q ∈ l) (e : p.1 = q.1) : p = q := by
  induction l with
  | nil => simp at hp
  | cons y r ih =>
    obtain ⟨h1, h2⟩ := List.pairwise_cons.1 hs
    rcases List.mem_cons.1 hp with e1 | hp'
    · rcases List.mem_cons.1 hq with e2 | hq'
      · rw [e1, e2]
      · have := h1 q hq'; rw [← e1, e] at this; exact absurd this (bb_irr _)
    · rcases List.mem_cons.1 hq with e2 | hq'
      · have := h1 p hp'; rw [← e2, e] at this; exact absurd this (bb_irr _)
      · exact ih h2 hp' hq'
theorem come_step {l : Fs} (hs : srt l) {left : Lit → Bool} {x : List UInt8} (hx : hasF l x = true) (hl : left (.string x) = true) :
    come l (fun z => left z && !z.sameKey (.string x)) = put (come l left) x (get l x) ∧ hasF (come l left) x = false := by
  have hno : hasF (come l left) x = false := by
    unfold hasF come
    rw [List.any_eq_false]
    intro p hp
    have := (List.mem_filter.1 hp).2
    intro e
    have e' : p.1 = x := by simpa using e
    rw [e', hl] at this
    simp at this
  refine ⟨srt_ext _ _ (hs.filter _) (put_srt (hs.filter _) _ _) (fun y => ?_), hno⟩
  unfold put
  rw [mem_fins, mem_del]
  unfold come
  rw [List.mem_filter, List.mem_filter]
  have ek : ∀ y : List UInt8 × List UInt8, (Lit.string y.1).sameKey (.string x) = (y.1 == x) := fun _ => rfl
  constructor
  · rintro ⟨h1, h2⟩
    by_cases e : y.1 = x
    · left
      exact one_of hs h1 (get_mem hx) e
    · right
      refine ⟨⟨h1, ?_⟩, e⟩
      simpa [ek, e] using h2
  · rintro (rfl | ⟨⟨h1, h2⟩, h3⟩)
    · refine ⟨get_mem hx, ?_⟩
      have h0 : (Lit.string x).sameKey (.string x) = true := by
        have := ek (x, get l x)
        simpa using this
      show (!(left (.string x) && !(Lit.string x).sameKey (.string x))) = true
      rw [h0]
      simp
    · refine ⟨h1, ?_⟩
      simp at h2
      simp [h2]
set_option maxRecDepth 100000 in
/-- What a step of a range over the files hands over. -/
theorem next_file {l : Fs} {kl : Lit} {x : List UInt8} {b : List UInt8} {y : DataW Unit × List MemPlace} (hkey : keyOf Tryz.prog 9 (.string ⟨x.toArray⟩) = some kl) (hv : fileE (.agg #[.string ⟨b.toArray⟩]) = some y) (hat : ∀ zd, (fD l).atKey kl zd = y.1) :
    kl = .string x ∧ b = get l x ∧ hasF l x = true := by
  have hk : kl = .string x := by
    obtain ⟨x', hx, he, _⟩ := Maps.keyOf_str Tryz.underlying9 hkey
    injection hx with hx
    injection hx with hx
    have : x = x' := by simpa using congrArg Array.toList hx
    rw [this]; exact he
  subst hk
  obtain ⟨b', hb, rfl, _⟩ := fileE_inv hv
  have e := hat (.lit (.string []))
  rw [fD_at] at e
  have hbb : b = b' := by
    unfold vF at hb
    injection hb with hb
    have h1 := congrArg Array.toList hb
    simp at h1
    exact h1
  have hh := Maps.has_true_of_atKey hat
  rw [fD_has] at hh
  refine ⟨rfl, ?_, hh⟩
  rw [hbb]
  injection e with e
  injection e with e
  exact e.symm
set_option maxRecDepth 100000 in
theorem inv_key (key : Value) (kl : Lit) (hk : keyOf Tryz.prog 9 key = some kl) : ∃ x : List UInt8, key = .string ⟨x.toArray⟩ := by
  obtain ⟨x, hx, _⟩ := Maps.keyOf_str Tryz.underlying9 hk
  exact ⟨x, hx⟩
set_option maxRecDepth 100000 in
theorem inv_file (v : Value) (y : DataW Unit × List MemPlace) (hv : fileE v = some y) : ∃ b : List UInt8, v = .agg #[.string ⟨b.toArray⟩] := by
  obtain ⟨b, rfl, _⟩ := fileE_inv hv
  exact ⟨b, rfl⟩
theorem rng_bel {w w' : World} {b r n cnt : Nat} {D : DataW Unit} {left : Lit → Bool} (h : w.ranges Tryz.prog 9 fileE b r n D left cnt) (hb : Bel w w') : w'.ranges Tryz.prog 9 fileE b r n D left cnt :=
  h.kept (row := none) ⟨hb.os, hb.tape, hb.output, hb.size, fun k hk _ => hb.block k hk⟩ (by simp) (by simp)
set_option maxRecDepth 100000 in
set_option maxHeartbeats 1000000 in
theorem total_any (b : Nat) (l : Fs) (w : World) (hM : Mp w b l) (hs : srt l) (ht : tot l ≤ 1099511627776) :
    Calls Tryz.prog 32 #[.map (some b)] w fun e w' => e = .returned (.int .i64 (tot l)) ∧ Bel w w' := by
  have HM := hide hM
  have hbl := hM.lt
  have HS := hide hs
  clear hM hs
  go_enter Tryz.func32, Tryz.ntmps32
  go_wp2_with (first
    | (at_range; refine wpList_range_own _ rfl _ 47 rfl 9 70 law9 Tryz.underlying47 fileE b l.length _ rfl (unhide HM) ?_; intro w0 hrg0 hg0 hs0)
    | go_in)
  go_frame
  go_loopw [3] (fun v wr => ∃ (left : Lit → Bool) (cnt : Nat), v = .int .i64 (tot (come l left)) ∧ tot (come l left) ≤ tot l ∧ wr.ranges Tryz.prog 9 fileE b w.heap.size l.length (fD l) left cnt ∧ Bel w wr)
    (fun _ wr => wr.rangeLeft b w.heap.size)
  case atStart => exact ⟨_, _, by rw [come_start]; rfl, by rw [come_start]; exact Nat.zero_le _, hrg0, hg0.os, hg0.tape, hg0.output, hg0.size, fun k hk => hg0.block k hk (by simp)⟩
  case round =>
    obtain ⟨left, cnt, rfl, hle, hrg, hnx⟩ := hrel
    go_wp2_with (first
      | (at_next; refine wpList_next_ranges _ rfl _ rfl 9 law9 fileE (fun x : List UInt8 => Value.string ⟨x.toArray⟩) (fun x : List UInt8 => Value.agg #[.string ⟨x.toArray⟩]) inv_key inv_file b w.heap.size l.length _ _ _ rfl hrg ?_ ?_)
      | go_in)
    · intro hc0 hl0
      go_wp2_with fail
      go_ret
      rw [come_end l left hl0]
      exact ⟨rfl, hnx⟩
    · intro x c kl yd yp w2 cnt2 hkey hlk hv hat hrg2 hlt hg2 hs2 hen
      obtain ⟨rfl, rfl, hh⟩ := next_file hkey hv hat
      obtain ⟨hst, hno⟩ := come_step (unhide HS) hh hlk
      have htp := tot_put (l := come l left) ((unhide HS).filter _) x (get l x)
      rw [get_none hno, ← hst] at htp
      have hwr : wrap64 ((tot (come l left) : Int) + ((get l x).length : Int)) = (tot (come l left) : Int) + ((get l x).length : Int) := by
        have := get_le l x
        unfold wrap64; omega
      clear hs2
      go_wp2_with fail
      go_roundw
      case rel =>
        refine ⟨_, cnt2, ?_, tot_filter _ l, hrg2.alloc _, (Below.grown hnx hg2 hnx.size (fun j hj => by cases hj; exact Nat.le_refl _)).alloc (Nat.le_trans hnx.size hg2.size) _⟩
        rw [hwr]
        congr 1
        simp at htp
        show _ = ((tot (come l fun z => left z && !z.sameKey (Lit.string x)) : Nat) : Int)
        omega
      case measure => rw [(hrg2.alloc _).left_eq, hrg.left_eq]; exact hlt
set_option maxRecDepth 100000 in
set_option maxHeartbeats 1000000 in
theorem copy_any (b1 b2 : Nat) (l : Fs) (w : World) (hM1 : Mp w b1 []) (hM2 : Mp w b2 l) (hne : b1 ≠ b2) (hs : srt l) (hl : l.length ≤ 4096) :
    Calls Tryz.prog 53 #[.map (some b1), .map (some b2)] w fun e w' => e = .returned (.tuple #[]) ∧ Mp w' b1 l ∧ Mp w' b2 l ∧ Ch (fun i => i = b1) w w' := by
  have HM1 := hide hM1
  have HM2 := hide hM2
  have hbl1 := hM1.lt
  have hbl2 := hM2.lt
  have HS := hide hs
  clear hM1 hM2 hs
  go_enter Tryz.func53, Tryz.ntmps53
  go_wp2_with (first
    | (at_range; refine wpList_range_own _ rfl _ 47 rfl 9 70 law9 Tryz.underlying47 fileE b2 l.length _ rfl (unhide HM2) ?_; intro w0 hrg0 hg0 hs0)
    | go_in)
  go_frame
  go_loopw [4] (fun _ wr => ∃ (left : Lit → Bool) (cnt : Nat), wr.ranges Tryz.prog 9 fileE b2 w.heap.size l.length (fD l) left cnt ∧ Mp wr b1 (come l left) ∧ Ch (fun i => i = b1) w wr)
    (fun _ wr => wr.rangeLeft b2 w.heap.size)
  case atStart => exact ⟨_, _, hrg0, by rw [come_start]; exact (unhide HM1).at (hg0.block b1 hbl1 (by simp)), (Ch.refl _ w).grown hg0 (fun i hi => by cases hi)⟩
  case round =>
    obtain ⟨left, cnt, hrg, hm1, hch⟩ := hrel
    go_wp2_with (first
      | (at_next; refine wpList_next_ranges _ rfl _ rfl 9 law9 fileE (fun x : List UInt8 => Value.string ⟨x.toArray⟩) (fun x : List UInt8 => Value.agg #[.string ⟨x.toArray⟩]) inv_key inv_file b2 w.heap.size l.length _ _ _ rfl hrg ?_ ?_)
      | go_in)
    · intro hc0 hl0
      go_wp2_with fail
      go_end0
      rw [come_end l left hl0] at hm1
      exact ⟨rfl, hm1, Mp.of hrg.owns, hch⟩
    · intro x c kl yd yp w2 cnt2 hkey hlk hv hat hrg2 hlt hg2 hs2 hen
      obtain ⟨rfl, rfl, hh⟩ := next_file hkey hv hat
      obtain ⟨hst, hno⟩ := come_step (unhide HS) hh hlk
      have hxl : x.length ≤ maxLen := by
        obtain ⟨_, hx, _, hx2⟩ := Maps.keyOf_str Tryz.underlying9 hkey
        injection hx with hx
        injection hx with hx
        rw [show x = _ by simpa using congrArg Array.toList hx]
        exact hx2
      obtain ⟨_, hvb, _, hvl⟩ := fileE_inv hv
      have hvl' : (get l x).length ≤ maxLen := by
        unfold vF at hvb
        injection hvb with hb
        have h1 := congrArg Array.toList hb
        simp at h1
        rw [h1]; exact hvl
      have hcl : (come l left).length ≤ 1000000 := by
        have := List.length_filter_le (fun p : List UInt8 × List UInt8 => !left (.string p.1)) l
        show (l.filter _).length ≤ _
        omega
      have hm2 : Mp w2 b1 (come l left) := hm1.at (hg2.block b1 hm1.lt (by simp; omega))
      have HM3 := hide hm2
      have HST := hide hst
      clear hs2 hm2 hst hvb
      go_wp2_with (first
        | (at_mapUpdate; refine wpList_stor _ rfl _ _ _ rfl b1 (come l left) rfl ((unhide HM3).bel ((Bel.refl _).alloc _)) hcl x (get l x) hxl hvl' rfl rfl ?_; intro w3 h1 h2; go_frame)
        | go_in)
      have hrg3 := (hrg2.alloc (.cells #[.string ⟨(get l x).toArray⟩] 70)).kept h2.grown (by simpa using fun e => hne e.symm) (by simp; omega)
      go_roundw
      case rel =>
        refine ⟨_, cnt2, hrg3, by rw [unhide HST]; exact h1, ((hch.grown hg2 (fun i hi => by cases hi; exact Or.inr (Nat.le_refl _))).alloc _).turned h2 (Or.inl rfl)⟩
      case measure => rw [hrg3.left_eq, hrg.left_eq]; exact hlt
set_option maxRecDepth 100000 in
set_option maxHeartbeats 1000000 in
/-- lay: one map is made the same as another. -/
theorem lay_any (b1 b2 : Nat) (l1 l : Fs) (w : World) (hM1 : Mp w b1 l1) (hM2 : Mp w b2 l) (hne : b1 ≠ b2) (hs : srt l) (hl : l.length ≤ 4096) :
    Calls Tryz.prog 30 #[.map (some b1), .map (some b2)] w fun e w' => e = .returned (.tuple #[]) ∧ Mp w' b1 l ∧ Mp w' b2 l ∧ Ch (fun i => i = b1) w w' := by
  have HM1 := hide hM1
  have HM2 := hide hM2
  have HS := hide hs
  clear hM1 hM2 hs
  obtain ⟨es, clock, hb, F, _, _⟩ := unhide HM1
  have hso : ∀ ty, (Builtin.clear_ #[47] ty #[.map (some b1)]).run Tryz.prog w = .ok (.tuple #[]) (ChangeMaps.setBlock w b1 (.map #[] clock)) := fun ty => by
    simp [Builtin.clear_, run_underlying Tryz.underlying47, MapKept.run_getObj_map hb, MapKept.run_setObj_map _ hb, Result.andThen, ChangeMaps.setBlock]
  obtain ⟨w1, hw1⟩ : ∃ w1, w1 = ChangeMaps.setBlock w b1 (.map #[] clock) := ⟨_, rfl⟩
  have ht : w.mapTurned w1 b1 := ⟨es, clock, #[], clock, hb, hw1⟩
  have h1 : Mp w1 b1 [] := by rw [hw1]; exact ⟨#[], clock, ChangeMaps.heap_setBlock_same hb _, ⟨by simp, MapKept.stamped_empty clock, by simp⟩, Nat.le_refl _, rfl⟩
  have hcp := hide (copy_any b1 b2 l w1 h1 ((unhide HM2).at (ht.grown.block b2 (unhide HM2).lt (by simpa using fun e => hne e.symm))) hne (unhide HS) hl)
  rw [← hw1] at hso
  clear hb F hw1 h1
  go_enter Tryz.func30, Tryz.ntmps30
  go_wp2_with (go_at_call 53; refine (unhide hcp).mono ?_; rintro e w2 ⟨rfl, h3, h4, h5⟩)
  go_end0
  exact ⟨rfl, h3, h4, ((Ch.refl (fun i => i = b1) w).turned ht (Or.inl rfl)).trans h5 (fun i hi => Or.inl hi)⟩
end Go.Proofs.YtgimciacapfbfaaGreatDoor
