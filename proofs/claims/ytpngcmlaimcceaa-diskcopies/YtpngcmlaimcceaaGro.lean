/- A thing that makes a file, or makes it longer: the program's grow, Append, Write. -/
import Derived.Test.YtpngcmlaimcceaaDon
import Derived.StillTailTactics
namespace Go.Proofs.Ytpngcmlaimcceaa
open Go.RowKit Go.Maps Go.WideMaps
/-- A world in which all that was there stands. -/
structure BelBy (w : World) where
  W : World
  h : Bel w W
theorem BelBy.some (w : World) : Nonempty (BelBy w) := ⟨⟨w, Bel.refl _⟩⟩
theorem wp_region_bel {P : Program} {id : Nat} {Q : Exit → Act → World → Prop} {a : Act} {w : World} {l : List Oper} (hm : P.follows .mixedOrders = true) (hB : Region.lexB .any l.toArray = true)
    (h : wpQuiet P l.toArray (fun w' => ∃ p : BelBy w, w' = p.W) (fun a' => ∀ w', (∃ p : BelBy w, w' = p.W) → Q .normal a' w') l a) : (Code.region id l.toArray true).wp P Q a w :=
  wp_region_quiet (C := fun w' => ∃ p : BelBy w, w' = p.W) hm hB ⟨⟨w.drew, (Bel.refl _).drew⟩, rfl⟩ (by simpa using h)
theorem cell_bel {w : World} {k i : Nat} {v : Value} {c : Array Value} {t : TypeId} (h : w.heap[k]? = Option.some (.cells c t)) (hv : c[i]? = Option.some v) (p : BelBy w) : p.W.cell? ⟨k, i, none⟩ = Option.some v := (cell_of (p.h.row h)).trans hv
theorem Mp.obj {w : World} {b : Nat} {l : Fs} (h : Mp w b l) : ∃ es clock, w.heap[b]? = Option.some (.map es clock) ∧ es.size = l.length := by
  have e := World.ownsMap.isMap h
  obtain ⟨es, clock, hb, F, hs, hD⟩ := h
  refine ⟨es, clock, hb, ?_⟩
  have h1 : Maps.size (fD l) = Maps.size (DataW.map ((es.toList.map (WideElems.rg Try.prog 9 fileE)).foldr DataW.insert [])) := by rw [hD]
  rw [fD_size] at h1
  simp [Maps.size, length_sorted] at h1
  exact h1.symm
theorem Try.follows : Try.prog.follows .mixedOrders = true := by kernel_rfl
set_option maxRecDepth 100000 in
set_option maxHeartbeats 1000000 in
theorem grow_any {C : Nat} {w : World} {p : Nat} {d : PD} {M B : Nat → Prop} (h : Dk C w p d M B) (o : Op5) (f : Value) (n : List UInt8) (more : Int) (hn : n.length ≤ maxLen) (hf : Clo w B f o) (hok : ok5 d.seen o) (hfi : more ≤ (d.room : Int) - (tot d.seen : Int) → ¬ (hasF d.seen n = false ∧ d.seen.length = 4096) → Fine C (run5 d.seen o)) (hmore : more = (tot (run5 d.seen o) : Int) - (tot d.seen : Int)) (hol : d.ops.length ≤ 1000000) (hC : C + (txt5 o).length ≤ 1099511627776) :
    Calls Try.prog 37 #[.pointer (some ⟨p, 0, none⟩), .string ⟨n.toArray⟩, .int .i64 more, .agg #[.string ⟨(txt5 o).toArray⟩, f]] w fun e w' => e = .returned (.int .i64 (d.grow n more o).1) ∧ Aft C w p M B (d.grow n more o).2 w' := by
  have hfu := Try.follows
  have htot : tot d.seen ≤ C := by have := h.val.last; rw [← h.seen] at this; exact this.tot
  have hroom := h.room
  obtain ⟨bs, bk, v, cs, h1, h2, h3⟩ := h.co
  obtain ⟨q, hq⟩ : ∃ q, hasF d.seen n = q := ⟨_, rfl⟩
  have e2 : w.cell? ⟨p, 2, none⟩ = some (.map (some bs)) := cell_of h1.row
  have e2A : ∀ o, (w.alloc o).cell? ⟨p, 2, none⟩ = some (.map (some bs)) := fun o => cell_of (((Bel.refl w).alloc o).row h1.row)
  have H := hide h
  have H1 := hide h1
  have HQ := hide hq
  have HF := hide hf
  have HMO := hide hmore
  have HFI := hide hfi
  clear h1 h2 h3 hf hq hmore h hfi
  go_enter Try.func37, Try.ntmps37
  go_wp2_with (first
    | (at_lookup; refine wpList_look_ok _ rfl _ _ rfl bs d.seen rfl ((unhide H1).ms.bel ((Bel.refl w).alloc _)) n hn rfl ?_; rw [HQ.out])
    | go_in)
  generalize hW : ((w.alloc (.cells #[.string ⟨(txt5 o).toArray⟩, f] 73)).alloc (.cells #[.string ⟨(get d.seen n).toArray⟩] 69)) = W
  have hbW : Bel w W := by rw [← hW]; exact ((Bel.refl w).alloc _).alloc _
  have hB0 : W.heap[w.heap.size]? = some (.cells #[.string ⟨(txt5 o).toArray⟩, f] 73) := by rw [← hW]; exact ((Bel.refl _).alloc _).row (at_new w _)
  have HW := hide hW
  clear hW
  have hrow := hbW.row (unhide H1).row
  obtain ⟨es, clock, hes, hsz⟩ := ((unhide H1).ms.bel hbW).obj
  have k0 := cell_bel (i := 0) hrow rfl
  have k1 := cell_bel (i := 1) hrow rfl
  have k2 := cell_bel (i := 2) hrow rfl
  have k3 : ∀ p : BelBy W, (Builtin.len_ #[54] 3 #[.map (some bs)]).run Try.prog p.W = .ok (.int .i64 es.size) p.W := fun p => by
    have := Mp.leng ((unhide H1).ms.bel (hbW.trans p.h)) 3
    rw [← hsz] at this
    exact this
  have hne := BelBy.some W
  have HB0 := hide hB0
  have HROW := hide hrow
  clear hB0 hrow hes
  have hws : wrap64 ((d.room : Int) - (tot d.seen : Int)) = (d.room : Int) - (tot d.seen : Int) := by unfold wrap64; omega
  by_cases hA : more > (d.room : Int) - (tot d.seen : Int)
  · have hres : Hid (d.grow n more o = (6, d)) := if_pos (Or.inl hA)
    refine wp_region_bel hfu (by kernel_rfl) ?_
    repeat (go_big_quiet_step (fail))
    refine wpQuiet_nil ?_
    rintro W2 ⟨p2, rfl⟩
    go_wp2_with fail
    go_ret
    rw [unhide hres]
    exact ⟨rfl, (unhide H).aft (hbW.trans p2.h)⟩
  · cases q
    · by_cases hL : d.seen.length = 4096
      · have hres : Hid (d.grow n more o = (6, d)) := if_pos (Or.inr ⟨unhide HQ, hL⟩)
        have hsz' : (es.size : Int) = 4096 := by omega
        refine wp_region_bel hfu (by kernel_rfl) ?_
        repeat (go_big_quiet_step (fail))
        refine wpQuiet_nil ?_
        rintro W2 ⟨p2, rfl⟩
        go_wp2_with fail
        go_ret
        rw [unhide hres]
        exact ⟨rfl, (unhide H).aft (hbW.trans p2.h)⟩
      · have hnot : Hid (¬ (hasF d.seen n = false ∧ d.seen.length = 4096)) := fun h => hL h.2
        have hres : Hid (d.grow n more o = d.done o) := if_neg (fun h => h.elim hA hnot)
        have hsz' : ¬ (es.size : Int) = 4096 := by omega
        refine wp_region_bel hfu (by kernel_rfl) ?_
        repeat (go_big_quiet_step (fail))
        refine wpQuiet_nil ?_
        rintro W2 ⟨p2, rfl⟩
        have hb2 := hbW.trans p2.h
        have z0 : p2.W.cell? ⟨w.heap.size, 0, none⟩ = some (.string ⟨(txt5 o).toArray⟩) := cell_bel (unhide HB0) rfl p2
        have z1 : p2.W.cell? ⟨w.heap.size, 1, none⟩ = some f := cell_bel (unhide HB0) rfl p2
        have hdo := hide (done_any ((unhide H).bel hb2) o f more ((unhide HF).at (fun i hi => ⟨hi, hb2.block i ((unhide H).ltB i hi)⟩)) hok ((unhide HFI) (by omega) hnot) (unhide HMO) hol hC)
        go_wp2_with (go_at_call 44; refine (unhide hdo).mono ?_; rintro e w5 ⟨rfl, haf⟩)
        go_ret
        rw [unhide hres]
        exact ⟨rfl, haf.from hb2⟩
    · have hnot : Hid (¬ (hasF d.seen n = false ∧ d.seen.length = 4096)) := fun h => by rw [unhide HQ] at h; cases h.1
      have hres : Hid (d.grow n more o = d.done o) := if_neg (fun h => h.elim hA hnot)
      refine wp_region_bel hfu (by kernel_rfl) ?_
      repeat (go_big_quiet_step (fail))
      refine wpQuiet_nil ?_
      rintro W2 ⟨p2, rfl⟩
      have hb2 := hbW.trans p2.h
      have z0 : p2.W.cell? ⟨w.heap.size, 0, none⟩ = some (.string ⟨(txt5 o).toArray⟩) := cell_bel (unhide HB0) rfl p2
      have z1 : p2.W.cell? ⟨w.heap.size, 1, none⟩ = some f := cell_bel (unhide HB0) rfl p2
      have hdo := hide (done_any ((unhide H).bel hb2) o f more ((unhide HF).at (fun i hi => ⟨hi, hb2.block i ((unhide H).ltB i hi)⟩)) hok ((unhide HFI) (by omega) hnot) (unhide HMO) hol hC)
      go_wp2_with (go_at_call 44; refine (unhide hdo).mono ?_; rintro e w5 ⟨rfl, haf⟩)
      go_ret
      rw [unhide hres]
      exact ⟨rfl, haf.from hb2⟩
theorem wrapI {x : Int} (h1 : -9223372036854775808 ≤ x) (h2 : x ≤ 9223372036854775807) : IntKind.i64.wrap x = x := by
  rw [IntKind.wrap_i64]
  omega
theorem run_tot {l : Fs} (hs : srt l) (n t : List UInt8) : (tot (run5 l (.app n t)) : Int) - (tot l : Int) = t.length := by
  have := tot_put hs n (get l n ++ t)
  show (tot (put l n (get l n ++ t)) : Int) - _ = _
  simp at this
  omega
theorem run_tot_wr {l : Fs} (hs : srt l) (n t : List UInt8) : (tot (run5 l (.wr n t)) : Int) - (tot l : Int) = (t.length : Int) - (get l n).length := by
  have := tot_put hs n t
  show (tot (put l n t) : Int) - _ = _
  omega
theorem put_fine {C : Nat} {l : Fs} (h : Fine C l) {n b : List UInt8} (hn : okN n) (ht : tot (put l n b) ≤ C) (hl : ¬ (hasF l n = false ∧ l.length = 4096)) : Fine C (put l n b) := by
  refine ⟨put_srt h.srt n b, ht, ?_, fun p hp => ?_⟩
  · cases hq : hasF l n
    · have := len_put l n b
      have := h.len
      have : l.length ≠ 4096 := fun e => hl ⟨hq, e⟩
      omega
    · exact Nat.le_trans (len_put_has hq b) h.len
  · unfold put at hp
    rcases mem_fins.1 hp with rfl | hp
    · exact hn
    · exact h.names p (mem_del.1 hp).1
theorem Dk.fine {C : Nat} {w : World} {p : Nat} {d : PD} {M B : Nat → Prop} (h : Dk C w p d M B) : Fine C d.seen := by
  have := h.val.last
  rw [← h.seen] at this
  exact this
theorem Aft.mono {C C' : Nat} {w w' : World} {p : Nat} {d : PD} {M B : Nat → Prop} (h : Aft C w p M B d w') (hc : C ≤ C') : Aft C' w p M B d w' := by
  obtain ⟨M', B', h1, h2, h3, h4⟩ := h
  exact ⟨M', B', ⟨h1.co, h1.seen, h1.val.mono hc, h1.dis, h1.ltM, h1.ltB, h1.room⟩, h2, h3, h4⟩
theorem Dk.mono {C C' : Nat} {w : World} {p : Nat} {d : PD} {M B : Nat → Prop} (h : Dk C w p d M B) (hc : C ≤ C') : Dk C' w p d M B := ⟨h.co, h.seen, h.val.mono hc, h.dis, h.ltM, h.ltB, h.room⟩
/-- The call's own boxes are none of those that were there. -/
theorem Aft.less {C : Nat} {w W w' : World} {p : Nat} {d : PD} {M B : Nat → Prop} (h : Aft C W p M (fun i => B i ∨ (w.heap.size ≤ i ∧ i < W.heap.size)) d w') (c : Bel w W) : Aft C w p M B d w' := by
  obtain ⟨M', B', h1, h2, h3, h4⟩ := h
  refine ⟨M', B', h1, fun i hi => (h2 i hi).elim Or.inl (fun h => Or.inr (Nat.le_trans c.size h)), fun i hi => ?_, (c.ch M).trans h4 (fun i hi => Or.inl hi)⟩
  rcases h3 i hi with (h | h) | h
  · exact Or.inl h
  · exact Or.inr h.1
  · exact Or.inr (Nat.le_trans c.size h)
theorem app_grow {C : Nat} {w W : World} {p : Nat} {d : PD} {M B : Nat → Prop} (h : Dk C w p d M B) {n t : List UInt8} (hn : n.length ≤ maxLen) (hol : d.ops.length ≤ 1000000) (hC : C + 2 * t.length ≤ 1099511627776) (hb : badN n = false) {ob : Obj} (hW : W = (w.alloc (.cells #[.string ⟨n.toArray⟩] 9)).alloc ob) :
    Calls Try.prog 37 #[.pointer (some ⟨p, 0, none⟩), .string ⟨n.toArray⟩, .int .i64 t.length, .agg #[.string ⟨t.toArray⟩, .func (.func 40) #[] #[.pointer (some ⟨w.heap.size, 0, none⟩)]]] W fun e w' => e = .returned (.int .i64 (d.grow n t.length (.app n t)).1) ∧ Aft (C + t.length) w p M B (d.grow n t.length (.app n t)).2 w' := by
  have hbW : Bel w W := by rw [hW]; exact ((Bel.refl w).alloc _).alloc _
  have hs := h.fine.srt
  have ht := run_tot hs n t
  refine (grow_any ((h.mono (C' := C + t.length) (by omega)).more hbW) (.app n t) _ n t.length hn ⟨w.heap.size, ⟨Or.inr ⟨Nat.le_refl _, by rw [hW]; simp; omega⟩, by rw [hW]; exact ((Bel.refl _).alloc _).row (at_new w _)⟩, rfl⟩ (okN_of hb) (fun _ hl => put_fine (h.mono (C' := C + t.length) (by omega)).fine (okN_of hb) ?_ hl) ht.symm hol (by show _ + t.length ≤ _; omega)).mono ?_
  · have : tot d.seen ≤ C := h.fine.tot
    have : (tot (put d.seen n (get d.seen n ++ t)) : Int) - (tot d.seen : Int) = t.length := ht
    omega
  · rintro e w2 ⟨he, haf⟩
    exact ⟨he, haf.less hbW⟩
theorem wr_grow {C : Nat} {w W : World} {p : Nat} {d : PD} {M B : Nat → Prop} (h : Dk C w p d M B) {n t : List UInt8} (hn : n.length ≤ maxLen) (hol : d.ops.length ≤ 1000000) (hC : C + 2 * t.length ≤ 1099511627776) (hb : badN n = false) {ob : Obj} (hW : W = ((w.alloc (.cells #[.string ⟨n.toArray⟩] 9)).alloc ob).drew) :
    Calls Try.prog 37 #[.pointer (some ⟨p, 0, none⟩), .string ⟨n.toArray⟩, .int .i64 ((t.length : Int) - ((get d.seen n).length : Int)), .agg #[.string ⟨t.toArray⟩, .func (.func 38) #[] #[.pointer (some ⟨w.heap.size, 0, none⟩)]]] W fun e w' => e = .returned (.int .i64 (d.grow n ((t.length : Int) - ((get d.seen n).length : Int)) (.wr n t)).1) ∧ Aft (C + t.length) w p M B (d.grow n ((t.length : Int) - ((get d.seen n).length : Int)) (.wr n t)).2 w' := by
  have hbW : Bel w W := by rw [hW]; exact (((Bel.refl w).alloc _).alloc _).drew
  have hs := h.fine.srt
  have ht := run_tot_wr hs n t
  refine (grow_any ((h.mono (C' := C + t.length) (by omega)).more hbW) (.wr n t) _ n _ hn ⟨w.heap.size, ⟨Or.inr ⟨Nat.le_refl _, by rw [hW]; show _ < ((w.alloc _).alloc _).heap.size; simp; omega⟩, by rw [hW]; exact ((Bel.refl _).alloc _).drew.row (at_new w _)⟩, rfl⟩ (okN_of hb) (fun _ hl => put_fine (h.mono (C' := C + t.length) (by omega)).fine (okN_of hb) ?_ hl) ht.symm hol (by show _ + t.length ≤ _; omega)).mono ?_
  · have : tot d.seen ≤ C := h.fine.tot
    have : (tot (put d.seen n t) : Int) - (tot d.seen : Int) = (t.length : Int) - (get d.seen n).length := ht
    omega
  · rintro e w2 ⟨he, haf⟩
    exact ⟨he, haf.less hbW⟩
set_option maxRecDepth 100000 in
set_option maxHeartbeats 1000000 in
theorem append_any {C : Nat} {w : World} {p : Nat} {d : PD} {M B : Nat → Prop} (h : Dk C w p d M B) (n t : List UInt8) (hn : n.length ≤ maxLen) (hol : d.ops.length ≤ 1000000) (hC : C + 2 * t.length ≤ 1099511627776) :
    Calls Try.prog 21 #[.pointer (some ⟨p, 0, none⟩), .string ⟨n.toArray⟩, .string ⟨t.toArray⟩] w fun e w' => e = .returned (.int .i64 (d.app n t).1) ∧ Aft (C + t.length) w p M B (d.app n t).2 w' := by
  have hfa := hide (fun W g => fault_n (W := W) (g := g) h n hn)
  obtain ⟨bd, hbd⟩ : ∃ bd, badN n = bd := ⟨_, rfl⟩
  rw [hbd] at hfa
  have HBD := hide hbd
  clear hbd
  unfold PD.app
  rw [HBD.out]
  have H := hide h
  clear h
  cases bd
  · rw [if_neg (by simp)] at hfa
    rw [if_neg (by simp)]
    go_enter Try.func21, Try.ntmps21
    go_wp2_with (first
      | (go_at_call 32; refine ((unhide hfa) _ _ (((Bel.refl w).alloc _).alloc _) (at_new2 w _ _)).mono ?_; rintro e w1 ⟨rfl, rfl⟩)
      | (fail))
    obtain ⟨W, hW⟩ : ∃ W, W = (w.alloc (.cells #[.string ⟨n.toArray⟩] 9)).alloc (.cells #[.string ⟨n.toArray⟩] 9) := ⟨_, rfl⟩
    rw [← hW]
    refine (app_grow (unhide H) hn hol hC (unhide HBD) hW).mono ?_
    rintro e w2 ⟨rfl, haf⟩
    go_wp2_with fail
    go_ret
    exact ⟨rfl, haf⟩
  · rw [if_pos rfl] at hfa
    rw [if_pos rfl]
    go_enter Try.func21, Try.ntmps21
    go_wp2_with (first
      | (go_at_call 32; refine ((unhide hfa) _ _ (((Bel.refl w).alloc _).alloc _) (at_new2 w _ _)).mono ?_; rintro e w1 ⟨rfl, rfl⟩)
      | (fail))
    go_ret
    exact ⟨rfl, ((unhide H).mono (by omega)).aft (((Bel.refl w).alloc _).alloc _)⟩
set_option maxRecDepth 100000 in
set_option maxHeartbeats 1000000 in
theorem write_any {C : Nat} {w : World} {p : Nat} {d : PD} {M B : Nat → Prop} (h : Dk C w p d M B) (n t : List UInt8) (hn : n.length ≤ maxLen) (hol : d.ops.length ≤ 1000000) (hC : C + 2 * t.length ≤ 1099511627776) :
    Calls Try.prog 19 #[.pointer (some ⟨p, 0, none⟩), .string ⟨n.toArray⟩, .string ⟨t.toArray⟩] w fun e w' => e = .returned (.int .i64 (d.wr n t).1) ∧ Aft (C + t.length) w p M B (d.wr n t).2 w' := by
  have hfa := hide (fun W g => fault_n (W := W) (g := g) h n hn)
  obtain ⟨bd, hbd⟩ : ∃ bd, badN n = bd := ⟨_, rfl⟩
  rw [hbd] at hfa
  have HBD := hide hbd
  clear hbd
  unfold PD.wr
  rw [HBD.out]
  have htot : (get d.seen n).length ≤ 1099511627776 := by have := get_le d.seen n; have := h.fine.tot; omega
  obtain ⟨bs, bk, v, cs, h1, h2, h3⟩ := h.co
  have hg2 := hide h1.row
  have HMs := hide h1.ms
  have H := hide h
  clear h h1 h2 h3
  cases bd
  · rw [if_neg (by simp)] at hfa
    rw [if_neg (by simp)]
    go_enter Try.func19, Try.ntmps19
    go_wp2_with (first
      | (go_at_call 32; refine ((unhide hfa) _ _ (((Bel.refl w).alloc _).alloc _) (at_new2 w _ _)).mono ?_; rintro e w1 ⟨rfl, rfl⟩)
      | (fail))
    obtain ⟨W, hW⟩ : ∃ W, W = ((w.alloc (.cells #[.string ⟨n.toArray⟩] 9)).alloc (.cells #[.string ⟨n.toArray⟩] 9)) := ⟨_, rfl⟩
    rw [← hW]
    have hbW : Bel w W := by rw [hW]; exact ((Bel.refl w).alloc _).alloc _
    have hB0 : W.heap[w.heap.size]? = some (.cells #[.string ⟨n.toArray⟩] 9) := by rw [hW]; exact ((Bel.refl _).alloc _).row (at_new w _)
    have hgr := hide (wr_grow (W := W.drew) (t := t) (unhide H) hn hol hC (unhide HBD) (by rw [hW]))
    have HW := hide hW
    clear hW
    have c0 : W.cell? ⟨w.heap.size, 0, none⟩ = some (.string ⟨n.toArray⟩) := cell_of hB0
    have c2 : W.cell? ⟨p, 2, none⟩ = some (.map (some bs)) := cell_of (hbW.row (unhide hg2))
    have hL : (Instr.lookup 54 (.map (some bs)) (.string ⟨n.toArray⟩) false).run Try.prog W.drew = .ok (.agg #[.string ⟨(get d.seen n).toArray⟩]) W.drew := Mp.look (w := W.drew) ((unhide HMs).bel hbW.drew) hn
    have h69 := fld69
    have hwk : IntKind.i64.wrap ((t.length : Int) - ((get d.seen n).length : Int)) = (t.length : Int) - ((get d.seen n).length : Int) := wrapI (by omega) (by omega)
    have hfu := Try.follows
    refine wp_region_still_tail 16 hfu (by kernel_rfl) ?_
    change wpStill _ _ (World.drew _) (fun a' => wpList _ _ _ _ a' (World.drew _)) _ _
    simp only [List.take_succ_cons, List.take_zero, List.drop_succ_cons, List.drop_zero]
    repeat still_step
    refine wpStill_nil ?_
    go_wp2_with (go_at_call 37; refine (unhide hgr).mono ?_; rintro e w2 ⟨rfl, haf⟩)
    go_ret
    exact ⟨rfl, haf⟩
  · rw [if_pos rfl] at hfa
    rw [if_pos rfl]
    go_enter Try.func19, Try.ntmps19
    go_wp2_with (first
      | (go_at_call 32; refine ((unhide hfa) _ _ (((Bel.refl w).alloc _).alloc _) (at_new2 w _ _)).mono ?_; rintro e w1 ⟨rfl, rfl⟩)
      | (fail))
    go_ret
    exact ⟨rfl, ((unhide H).mono (by omega)).aft (((Bel.refl w).alloc _).alloc _)⟩
end Go.Proofs.Ytpngcmlaimcceaa
