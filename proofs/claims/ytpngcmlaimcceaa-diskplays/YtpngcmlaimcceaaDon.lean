/- A thing is done: the program's done, grow, Append, Write. -/
import Derived.Test.YtpngcmlaimcceaaAcc
import Derived.Deep.RegionHeldLaw
import Derived.Deep.RegionLaw
namespace Go.Proofs.Ytpngcmlaimcceaa
open Go.RowKit Go.Maps Go.WideMaps
theorem Dk.more {C : Nat} {w w' : World} {p : Nat} {d : PD} {M B : Nat → Prop} (h : Dk C w p d M B) (c : Bel w w') : Dk C w' p d M (fun i => B i ∨ (w.heap.size ≤ i ∧ i < w'.heap.size)) := by
  have h' := h.bel c
  obtain ⟨bs, bk, v, cs, h1, h2, h3⟩ := h'.co
  exact ⟨⟨bs, bk, v, cs, h1, h2.at (fun i hi => ⟨Or.inl hi, rfl⟩), h3⟩, h.seen, h.val, fun i hm hb => hb.elim (h.dis i hm) (fun hb => by have := h.ltM i hm; omega), h'.ltM, fun i hb => hb.elim (h'.ltB i) (fun hb => hb.2), h.room⟩
theorem done_mid {w w1 w2 : World} {p bs bk : Nat} {v : Value} {room used : Int} {seen synced : Fs} {n : Nat} {cs : List Value} {x y : Value} (h1 : Co w p bs bk v room used seen synced n cs) (hb1 : Bel w w1) (hbo : w1.heap[w.heap.size]? = some (.cells #[x, y] 73)) (hc2 : Ch (fun i => i = bs) w1 w2) :
    w2.cell? ⟨p, 2, none⟩ = some (.map (some bs)) ∧ w2.cell? ⟨w.heap.size, 0, none⟩ = some x ∧ w2.cell? ⟨w.heap.size, 1, none⟩ = some y ∧ Hid (w2.heap[p]? = some (.cells #[.int .i64 room, .int .i64 used, .map (some bs), .map (some bk), v] 57)) ∧ Hid (w2.heap[w.heap.size]? = some (.cells #[x, y] 73)) := by
  have hr2 := hc2.row (hb1.row h1.row) (fun e => h1.ms.ne_row h1.row e.symm)
  have hb2 := hc2.row hbo (fun e => by have := h1.ms.lt; omega)
  exact ⟨cell_of hr2, cell_of hb2, cell_of hb2, hr2, hb2⟩
theorem done_mid2 {w w1 w2 w3 : World} {p bs bk : Nat} {v : Value} {room used used' : Int} {seen synced : Fs} {n : Nat} {cs : List Value} {x y : Value} (h1 : Co w p bs bk v room used seen synced n cs) (hb1 : Bel w w1) (hc2 : Ch (fun i => i = bs) w1 w2)
    (hr2 : w2.heap[p]? = some (.cells #[.int .i64 room, .int .i64 used, .map (some bs), .map (some bk), v] 57)) (hb2 : w2.heap[w.heap.size]? = some (.cells #[x, y] 73)) (hw3 : w3 = w2.setCell ⟨p, 1, none⟩ (.int .i64 used')) :
    Hid (w3.heap[p]? = some (.cells #[.int .i64 room, .int .i64 used', .map (some bs), .map (some bk), v] 57)) ∧ Hid (w3.heap[w.heap.size]? = some (.cells #[x, y] 73)) ∧ Hid (w3.ownsRow 0 73 2 v n cs) ∧ Hid (Ch (fun i => i = p ∨ i = bs) w w3) := by
  have hp : p < w.heap.size := lt_of_some h1.row
  have hc3 : Ch (fun i => i = p ∨ i = bs) w w3 := by
    rw [hw3]
    exact (((hb1.ch (fun i => i = p ∨ i = bs)).trans hc2 (fun i hi => Or.inl (Or.inr hi))).set (Or.inl (Or.inl rfl)) _)
  refine ⟨?_, ?_, ?_, hc3⟩
  · rw [hw3]; exact row_set hr2
  · rw [hw3]; exact (Below.heap_setCell _ _ _ _ (by show w.heap.size ≠ p; omega)).trans hb2
  · refine row_at h1.lo (fun k hk => hc3.block k (h1.lo.lt k hk).2 ?_)
    rintro (rfl | rfl)
    · exact h1.nv hk
    · rcases h1.lo.2 with ⟨rfl, _⟩ | ⟨g, cap, cur, rfl, _, hg, _⟩
      · cases hk
      · cases hk; exact h1.ms.ne_row hg rfl
theorem done_mid3 {w3 w4 : World} {p b0 : Nat} {v : Value} {c : Array Value} {x y z v' : Value} {o : Obj} (hr3 : w3.heap[p]? = some (.cells c 57)) (hb3 : w3.heap[b0]? = some (.cells #[x, y] 73)) (hv : v.ownBlock ≠ some p) (hpb : p < b0)
    (hvb : v.ownBlock ≠ some b0) (hc4 : c[4]? = some z) (hgrow : (w3.drew.alloc o).grownBy w4 v.ownBlock) :
    Hid (w4.heap[p]? = some (.cells c 57)) ∧ Hid (w4.heap[b0]? = some (.cells #[x, y] 73)) ∧ w4.cell? ⟨b0, 0, none⟩ = some x ∧ w4.cell? ⟨b0, 1, none⟩ = some y ∧ w4.cell? ⟨p, 4, none⟩ = some z ∧ w4.frozen? ⟨p, 4, none⟩ = false ∧
      ((w4.setCell ⟨p, 4, none⟩ v').cell? ⟨b0, 0, none⟩ = some x ∧ (w4.setCell ⟨p, 4, none⟩ v').cell? ⟨b0, 1, none⟩ = some y) := by
  have e : ∀ {k : Nat} {o' : Obj}, w3.heap[k]? = some o' → v.ownBlock ≠ some k → w4.heap[k]? = some o' := fun {k o'} hk hne => by
    have h1 : (w3.drew.alloc o).heap[k]? = some o' := ((Bel.refl w3).drew.alloc o).row hk
    rw [hgrow.block k (lt_of_some h1) (fun e => hne e.symm)]; exact h1
  have h4 := e hr3 hv
  have h5 := e hb3 hvb
  have h6 : (w4.setCell ⟨p, 4, none⟩ v').heap[b0]? = some (.cells #[x, y] 73) := (Below.heap_setCell _ _ _ _ (by show b0 ≠ p; omega)).trans h5
  exact ⟨h4, h5, cell_of h5, cell_of h5, (cell_of h4).trans hc4, free_row h4, cell_of h6, cell_of h6⟩
theorem Try.i73 : ∃ i, Try.prog.info? 73 = some i ∧ i.zero = some (.agg #[.string ⟨#[]⟩, .nilFunc]) ∧ i.size = 2 ∧ i.bytes = 24 := by
  have h : (Try.prog.info? 73).map (fun i => (i.zero, i.size, i.bytes)) = some (some (.agg #[.string ⟨#[]⟩, .nilFunc]), 2, 24) := by kernel_rfl
  obtain ⟨i, hi, hzz⟩ := Option.map_eq_some_iff.1 h
  simp only [Prod.mk.injEq] at hzz
  exact ⟨i, hi, hzz.1, hzz.2.1, hzz.2.2⟩
theorem size_set (w : World) (a : Addr) (v : Value) : (w.setCell a v).heap.size = w.heap.size := by unfold World.setCell; split <;> simp
theorem done_fin {C : Nat} {w w1 w2 w3 w4 : World} {p bs bk g cp : Nat} {v f : Value} {d : PD} {M B : Nat → Prop} {o : Op5} {cs : List Value} {ob : Obj} (h : Dk C w p d M B) (h1 : Co w p bs bk v d.room (tot d.seen) d.seen d.synced d.ops.length cs) (h2 : Th w B d.ops cs) (h3 : ∀ i, Fp p bs bk v i → M i) (hf : Clo w B f o)
    (hok : ok5 d.seen o) (hfi : Fine C (run5 d.seen o)) (hm2 : Mp w2 bs (run5 d.seen o)) (hb1 : Bel w w1) (hc2 : Ch (fun i => i = bs) w1 w2) (hw3 : w3 = w2.setCell ⟨p, 1, none⟩ (.int .i64 (tot (run5 d.seen o))))
    (hr4 : w4.heap[p]? = some (.cells #[.int .i64 d.room, .int .i64 (tot (run5 d.seen o)), .map (some bs), .map (some bk), v] 57)) (hown : w4.ownsRow 0 73 2 (.slice (some ⟨g, 0, none⟩) (d.ops.length + 1) cp) (d.ops.length + 1) (cs ++ [.string ⟨(txt5 o).toArray⟩, f]))
    (hgrow : (w3.alloc ob).drew.grownBy w4 v.ownBlock) (hat : v.ownBlock = some g ∨ g = w3.heap.size + 1) :
    Aft C w p M B (d.done o).2 (w4.setCell ⟨p, 4, none⟩ (.slice (some ⟨g, 0, none⟩) (d.ops.length + 1) cp)) := by
  have Mp' : M p := h3 p (Or.inl rfl)
  have hpl : p < w.heap.size := lt_of_some h1.row
  have hpb : p ≠ bs := fun e => h1.ms.ne_row h1.row e.symm
  have hpk : p ≠ bk := fun e => h1.my.ne_row h1.row e.symm
  have hvbs : v.ownBlock ≠ some bs := fun e => by
    rcases h1.lo.2 with ⟨rfl, _⟩ | ⟨g, cap, cur, rfl, _, hg, _⟩
    · cases e
    · cases e; exact h1.ms.ne_row hg rfl
  have hvbk : v.ownBlock ≠ some bk := fun e => by
    rcases h1.lo.2 with ⟨rfl, _⟩ | ⟨g, cap, cur, rfl, _, hg, _⟩
    · cases e
    · cases e; exact h1.my.ne_row hg rfl
  have hc3 : Ch (fun i => i = p ∨ i = bs) w w3 := by
    rw [hw3]
    exact (((hb1.ch (fun i => i = p ∨ i = bs)).trans hc2 (fun i hi => Or.inl (Or.inr hi))).set (Or.inl (Or.inl rfl)) _)
  have hc4 : Ch M w w4 := (((hc3.mono (M' := M) (fun i hi => by
    rcases hi with rfl | rfl
    · exact Mp'
    · exact h3 _ (Or.inr (Or.inl rfl)))).alloc ob).drew).grown hgrow (fun i hi => Or.inl (h3 i (Or.inr (Or.inr (Or.inr hi)))))
  have hc5 : Ch M w (w4.setCell ⟨p, 4, none⟩ (.slice (some ⟨g, 0, none⟩) (d.ops.length + 1) cp)) := hc4.set (Or.inl Mp') _
  have hgp : g ≠ p := fun e => by
    rcases hat with h' | h'
    · rw [e] at h'; exact h1.nv h'
    · have := hc3.size; omega
  have ew : ∀ k, k < w2.heap.size → k ≠ p → v.ownBlock ≠ some k → (w4.setCell ⟨p, 4, none⟩ (.slice (some ⟨g, 0, none⟩) (d.ops.length + 1) cp)).heap[k]? = w2.heap[k]? := fun k hk hkp hkv => by
    have hk3 : k < w3.heap.size := by rw [hw3, size_set]; exact hk
    rw [Below.heap_setCell _ _ _ _ (show k ≠ p from hkp), hgrow.block k (by show k < (w3.alloc ob).heap.size; simp; omega) (fun e => hkv e.symm)]
    show (w3.alloc ob).heap[k]? = _
    rw [(MapKept.heap_alloc w3 ob).2 k hk3, hw3, Below.heap_setCell _ _ _ _ (show k ≠ p from hkp)]
  have hbk2 : bk < w2.heap.size := Nat.lt_of_lt_of_le h1.my.lt (Nat.le_trans hb1.size hc2.size)
  have hgl : g < w4.heap.size := (hown.lt g rfl).2
  refine ⟨fun i => M i ∨ i = g, B, ⟨⟨bs, bk, .slice (some ⟨g, 0, none⟩) (d.ops.length + 1) cp, cs ++ [.string ⟨(txt5 o).toArray⟩, f], ⟨?_, ?_, ?_, ?_, h1.ne, ?_, fun e => absurd e (by simp [PD.done])⟩, ?_, ?_⟩, ?_, ?_, ?_, ?_, ?_, h.room⟩, ?_, fun i hi => Or.inl hi, hc5⟩
  · exact row_set hr4
  · exact hm2.at (ew bs hm2.lt (fun e => hpb e.symm) hvbs)
  · refine h1.my.at ?_
    rw [ew bk hbk2 (fun e => hpk e.symm) hvbk, hc2.block bk (Nat.lt_of_lt_of_le h1.my.lt hb1.size) (fun e => h1.ne e.symm), hb1.block bk h1.my.lt]
  · have : (d.done o).2.ops.length = d.ops.length + 1 := by simp [PD.done]
    rw [this]
    exact row_at hown (fun k hk => by cases hk; exact Below.heap_setCell _ _ _ _ (show g ≠ p from hgp))
  · intro e; cases e; exact hgp rfl
  · exact Th.snoc (hf.at (fun i hi => ⟨hi, hc5.block i (h.ltB i hi) (fun hm => h.dis i hm hi)⟩)) (h2.at (fun i hi => ⟨hi, hc5.block i (h.ltB i hi) (fun hm => h.dis i hm hi)⟩))
  · rintro i (rfl | rfl | rfl | hi)
    · exact Or.inl Mp'
    · exact Or.inl (h3 _ (Or.inr (Or.inl rfl)))
    · exact Or.inl (h3 _ (Or.inr (Or.inr (Or.inl rfl))))
    · cases hi; exact Or.inr rfl
  · show run5 d.seen o = (d.ops ++ [o]).foldl run5 d.synced
    rw [List.foldl_append, ← h.seen]
    rfl
  · show Val C d.synced (d.ops ++ [o])
    exact Val.snoc h.val (by rw [← h.seen]; exact hok) (by rw [← h.seen]; exact hfi)
  · rintro i (hm | rfl) hb
    · exact h.dis i hm hb
    · rcases hat with h' | h'
      · exact h.dis i (h3 i (Or.inr (Or.inr (Or.inr h')))) hb
      · have := h.ltB i hb; have := hc3.size; omega
  · rintro i (hm | rfl)
    · exact Nat.lt_of_lt_of_le (h.ltM i hm) hc5.size
    · rw [size_set]; exact hgl
  · exact fun i hi => Nat.lt_of_lt_of_le (h.ltB i hi) hc5.size
  · rintro i (hm | rfl)
    · exact Or.inl hm
    · rcases hat with h' | h'
      · exact Or.inl (h3 i (Or.inr (Or.inr (Or.inr h'))))
      · right; have := hc3.size; omega
set_option maxRecDepth 100000 in
set_option maxHeartbeats 1000000 in
theorem done_any {C : Nat} {w : World} {p : Nat} {d : PD} {M B : Nat → Prop} (h : Dk C w p d M B) (o : Op5) (f : Value) (more : Int) (hf : Clo w B f o) (hok : ok5 d.seen o) (hfi : Fine C (run5 d.seen o)) (hmore : more = (tot (run5 d.seen o) : Int) - (tot d.seen : Int)) (hol : d.ops.length ≤ 1000000) (hC : C + (txt5 o).length ≤ 1099511627776) :
    Calls Try.prog 44 #[.pointer (some ⟨p, 0, none⟩), .int .i64 more, .agg #[.string ⟨(txt5 o).toArray⟩, f]] w fun e w' => e = .returned (.int .i64 0) ∧ Aft C w p M B (d.done o).2 w' := by
  obtain ⟨bs, bk, v, cs, h1, h2, h3⟩ := h.co
  obtain ⟨w1, hw1⟩ : ∃ w1, w1 = (w.alloc (.cells #[.string ⟨(txt5 o).toArray⟩, f] 73)).drew := ⟨_, rfl⟩
  have hb1 : Bel w w1 := by rw [hw1]; exact ((Bel.refl w).alloc _).drew
  have hD1 := h.bel hb1
  obtain ⟨fn, cap, rfl, hen, hcall⟩ := clo_any w1 B f o (txt5 o) d.seen bs C (hf.at (fun i hi => ⟨hi, hb1.block i (h.ltB i hi)⟩)) (h1.ms.bel hb1) (by have := h.val.last; rw [← h.seen] at this; exact this) hok hC
  rw [with_txt] at hcall
  have HC := hide hcall
  have e57 : ∀ o, (w.alloc o).cell? ⟨p, 2, none⟩ = some (.map (some bs)) := fun o => cell_of (((Bel.refl w).alloc o).row h1.row)
  have hbo : w1.heap[w.heap.size]? = some (.cells #[.string ⟨(txt5 o).toArray⟩, .func (.func fn) #[] cap] 73) := by rw [hw1]; exact at_new w _
  have hen' : ∀ (args : Array Value) (W : World), (callFunc fn args).run Try.prog W = .ok (.enter fn args) W := hen
  have H1 := hide h1
  have H := hide h
  have HW := hide hw1
  have HBO := hide hbo
  obtain ⟨a4, c4, rfl, _, _⟩ := own_shape h1.lo
  have H2 := hide h2
  have H3 := hide h3
  have HF := hide hf
  have HOK := hide hok
  have HMO := hide hmore
  have HFI := hide hfi
  clear h1 hcall hbo h hD1 h2 h3 hf hen hw1 hok hfi hmore
  go_enter Try.func44, Try.ntmps44
  go_wp2_with fail
  go_region_held3 (fun W => W.cell? ⟨p, 2, none⟩ = some (.map (some bs)) ∧ W.cell? ⟨w.heap.size, 0, none⟩ = some (.string ⟨(txt5 o).toArray⟩) ∧ W.cell? ⟨w.heap.size, 1, none⟩ = some (.func (.func fn) #[] cap)) (first | exact ⟨s1, s2, s3⟩ | (refine ⟨?_, ?_, ?_⟩ <;> go_simp)) ((first | (rw [← (unhide HW)]; refine (unhide HC).mono ?_; rintro e w2 ⟨rfl, hm2, hc2⟩; obtain ⟨s1, s2, s3, hr2, hbo2⟩ := done_mid (unhide H1) hb1 (unhide HBO) hc2)))
  have c1 : w2.cell? ⟨p, 1, none⟩ = some (.int .i64 (tot d.seen)) := cell_of (unhide hr2)
  have f1 := free_row (p := 1) (unhide hr2)
  have hwr : wrap64 ((tot d.seen : Int) + more) = (tot (run5 d.seen o) : Int) := by
    rw [show (tot d.seen : Int) + more = (tot (run5 d.seen o) : Int) by have := unhide HMO; omega]
    have := (unhide HFI).tot
    unfold wrap64
    omega
  go_wp2_with fail
  obtain ⟨w3, hw3⟩ : ∃ w3, w3 = w2.setCell ⟨p, 1, none⟩ (.int .i64 (tot (run5 d.seen o))) := ⟨_, rfl⟩
  rw [← hw3]
  obtain ⟨hr3, hb3, hl3, hc3⟩ := done_mid2 (unhide H1) hb1 hc2 (unhide hr2) (unhide hbo2) hw3
  have s4 : w3.cell? ⟨p, 4, none⟩ = some (.slice a4 d.ops.length c4) := cell_of (unhide hr3)
  have s5 : w3.cell? ⟨w.heap.size, 0, none⟩ = some (.string ⟨(txt5 o).toArray⟩) := cell_of (unhide hb3)
  have s6 : w3.cell? ⟨w.heap.size, 1, none⟩ = some (.func (.func fn) #[] cap) := cell_of (unhide hb3)
  clear s1 s2 s3 c1 f1
  have f4 := free_row (p := 4) (unhide hr3)
  have HW3 := hide hw3
  clear hw3
  obtain ⟨i0, hi, hz0, hz1, hz2⟩ := Try.i73
  have n1 := World.new_ne w3 _ s4
  have n2 := World.new_ne w3 _ s5
  have sA : ∀ o, (w3.alloc o).cell? ⟨p, 4, none⟩ = some (.slice a4 d.ops.length c4) := fun o => cell_of (((Bel.refl _).alloc o).row (unhide hr3))
  go_region_law ((first | (refine step_append_lies _ rfl _ _ 55 rfl 0 73 i0 (.agg #[.string ⟨#[]⟩, .nilFunc]) 2 24 Try.underlying55 hi hz0 hz1 hz2 rfl (by decide) (.slice a4 d.ops.length c4) d.ops.length cs rfl ((unhide hl3).drew.alloc _) ⟨w3.heap.size, 0, none⟩ 1 1 [.string ⟨(txt5 o).toArray⟩, .func (.func fn) #[] cap] rfl rfl (World.news_of_block (at_new w3.drew _)) (by simp [Value.oneCell']) (by decide) (by unfold maxLen; omega) (by omega) (Nat.zero_le _) (w3.heap.size + 1) (by simp) ?_; intro g cp w4 hown hgrow hat hlt; obtain ⟨hr4, hb4, t1, t2, t4, f4', t3⟩ := done_mid3 (v' := .slice (some ⟨g, 0, none⟩) (d.ops.length + 1) cp) (unhide hr3) (unhide hb3) (unhide H1).nv (lt_of_some (unhide H1).row) (fun e => by have := ((unhide H1).lo.lt _ e).2; omega) rfl hgrow)))
  all_goals
    go_wp2_with fail
    go_ret
    exact ⟨rfl, done_fin (unhide H) (unhide H1) (unhide H2) (unhide H3) (unhide HF) (unhide HOK) (unhide HFI) hm2 hb1 hc2 (unhide HW3) (unhide hr4) hown hgrow hat⟩
end Go.Proofs.Ytpngcmlaimcceaa
