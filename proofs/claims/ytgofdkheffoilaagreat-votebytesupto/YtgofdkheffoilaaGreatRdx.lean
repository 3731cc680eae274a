/- The program's reader: Text, ByteUpTo, Ids, Entry, Entries. -/
import Derived.Test.YtgofdkheffoilaaGreatRdr
import Derived.Test.YtgofdkheffoilaaGreatEnt
namespace Go.Proofs.YtgofdkheffoilaaGreat
open Go.RowKit Go.Maps
/-- A text is read. -/
def ptext (s : ByteArray) (f : Bool) : ByteArray × ByteArray × Bool := if (rText s).2.2 = 0 then ((rText s).1, (rText s).2.1, f) else (⟨#[]⟩, ⟨#[]⟩, true)
set_option maxRecDepth 100000 in
theorem rtext_any {W : World} {b : Nat} {s : ByteArray} {f : Bool} (h : Rst W b s f) (hs : s.size ≤ 150000000000000) : Calls Tryz.prog 69 #[.pointer (some ⟨b, 0, none⟩)] W fun e w' => e = .returned (.string (ptext s f).1) ∧ Rst w' b (ptext s f).2.1 (ptext s f).2.2 ∧ Ch (fun i => i = b) W w' := by
  have HC := hide (fun W' => creadText_any s hs W')
  have HR := hide h
  have c0 := h.c0
  unfold ptext
  generalize rText s = r at *
  obtain ⟨n, body, x⟩ := r
  simp only at HC ⊢
  clear h hs
  by_cases hx : x = 0
  · subst hx
    rw [if_pos rfl]
    go_enter Tryz.func69, Tryz.ntmps69
    go_wp2_with (first
      | (go_at_call 114; refine ((unhide HC) _).mono ?_; rintro e w1 ⟨rfl, hb1⟩; have HR1 := hide (And.intro ((unhide HR).bel hb1) hb1); have d0 := (unhide HR1).1.c0; have f0 := (unhide HR1).1.free 0; clear hb1))
    go_ret
    exact ⟨rfl, ((unhide HR1).1.set0 body).1, Ch.one ((unhide HR1).2.ch _) ((unhide HR1).1.set0 body).2⟩
  · rw [if_neg hx]
    have hxx : (x != 0) = true := by rw [bne_iff_ne]; exact hx
    clear hx
    go_enter Tryz.func69, Tryz.ntmps69
    go_wp2_with (first
      | (go_at_call 114; refine ((unhide HC) _).mono ?_; rintro e w1 ⟨rfl, hb1⟩; have HR1 := hide (And.intro ((unhide HR).bel hb1) hb1); clear hb1)
      | (go_at_call 110; refine (fail_any (unhide HR1).1).mono ?_; rintro e w2 ⟨rfl, hr2, hc2⟩; have HR2 := hide (And.intro hr2 hc2); clear hr2 hc2))
    go_ret
    exact ⟨rfl, (unhide HR2).1, Ch.one ((unhide HR1).2.ch _) (unhide HR2).2⟩
/-- A byte of at most that is read. -/
def pbyte (m : Nat) (s : ByteArray) (f : Bool) : Nat × ByteArray × Bool := if s.size = 0 then (0, ⟨#[]⟩, true) else if m < n0 s then (0, ⟨#[]⟩, true) else (n0 s, s.extract 1 s.size, f)
set_option maxRecDepth 100000 in
theorem rbyte_any {W : World} {b : Nat} {s : ByteArray} {f : Bool} (h : Rst W b s f) (hs : s.size ≤ 150000000000000) (m : Nat) : Calls Tryz.prog 64 #[.pointer (some ⟨b, 0, none⟩), .int .u8 (m : Int)] W fun e w' => e = .returned (.int .u8 ((pbyte m s f).1 : Int)) ∧ Rst w' b (pbyte m s f).2.1 (pbyte m s f).2.2 ∧ Ch (fun i => i = b) W w' := by
  have HR := hide h
  have c0 := h.c0
  have f0 := h.free 0
  unfold pbyte
  clear h
  by_cases h0 : s.size = 0
  · rw [if_pos h0]
    have he : s = ByteArray.empty := (ba_zero s).2 h0
    subst he
    clear h0
    go_enter Tryz.func64, Tryz.ntmps64
    go_wp2_with (first
      | (go_at_call 110; refine (fail_any (unhide HR)).mono ?_; rintro e w2 ⟨rfl, hr2, hc2⟩; have HR2 := hide (And.intro hr2 hc2); clear hr2 hc2))
    go_ret
    exact ⟨rfl, (unhide HR2).1, (unhide HR2).2⟩
  · rw [if_neg h0]
    have hp : 0 < s.size := by omega
    have he : s.toList.isEmpty = false := by rw [beq_empty]; exact decide_eq_false h0
    have hn := n0_pos hp
    by_cases hm : m < n0 s
    · rw [if_pos hm]
      rw [hn] at hm
      have hlt : (m : Int) < ((s[0]).toNat : Int) := by omega
      clear hm h0 hn
      go_enter Tryz.func64, Tryz.ntmps64
      go_wp2_with (first
        | (go_at_call 110; refine (fail_any (unhide HR)).mono ?_; rintro e w2 ⟨rfl, hr2, hc2⟩; have HR2 := hide (And.intro hr2 hc2); clear hr2 hc2))
      go_ret
      exact ⟨rfl, (unhide HR2).1, (unhide HR2).2⟩
    · rw [if_neg hm, hn]
      rw [hn] at hm
      have hlt : ¬ ((m : Int) < ((s[0]).toNat : Int)) := by omega
      have hle : (1 : Int) ≤ (s.size : Int) := by omega
      clear hm h0 hn
      go_enter Tryz.func64, Tryz.ntmps64
      go_wp2_with fail
      go_ret
      exact ⟨rfl, ((unhide HR).set0 _).1, ((unhide HR).set0 _).2⟩
/-- A row that is being built beside a reader. -/
structure Rq {α : Type} (E : El α) (W w : World) (b : Nat) (s : ByteArray) (f : Bool) (v : Value) (l : List α) : Prop where
  r : Rst w b s f
  o : E.O W.heap.size w v l
  ch : Ch (fun i => i = b) W w
  lt : b < W.heap.size
section
variable {α : Type} {E : El α} {W w w' : World} {b : Nat} {s s' : ByteArray} {f f' : Bool} {v v' : Value} {l : List α}
theorem El.O.off {base : Nat} (h : E.O base w v l) (hc : Ch (fun i => i = b) w w') (hb : b < base) : E.O base w' v l := h.at (fun k hk => hc.block k (h.lt hk).2 (fun e => by have := (h.lt hk).1; omega))
/-- A row is none of a box's cells. -/
theorem El.O.bx {base : Nat} {c : Array Value} {t : Nat} (h : E.O base w v l) (hr : w.heap[b]? = some (.cells c t)) (ht : E.e ≠ t) (hc : Ch (fun k => k = b) w w') : E.O base w' v l :=
  h.at (fun k hk => hc.block k (h.lt hk).2 (fun e => by
    obtain ⟨c2, hc2⟩ := h.block hk
    rw [e, hr] at hc2
    injection (Option.some.inj hc2) with _ h2
    exact ht h2.symm))
theorem Rq.read (h : Rq E W w b s f v l) (hr : Rst w' b s' f') (hc : Ch (fun i => i = b) w w') : Rq E W w' b s' f' v l := ⟨hr, h.o.off hc h.lt, Ch.one h.ch hc, h.lt⟩
theorem Rq.app {x : α} {o : Obj} (h : Rq E W w b s f v l) (hg : (w.alloc o).grownBy w' v.ownBlock) (ho : E.O W.heap.size w' v' (l ++ [x])) : Rq E W w' b s f v' (l ++ [x]) := by
  have hr : Rst (w.alloc o) b s f := h.r.bel ((Bel.refl w).alloc _)
  refine ⟨?_, ho, (h.ch.alloc o).grown hg (fun i hi => Or.inr (h.o.lt hi).1), h.lt⟩
  have hb := hg.block b (lt_of_some hr) (fun e => by have := (h.o.lt e.symm).1; have := h.lt; omega)
  exact hb.trans hr
theorem sl_one (w : World) (x : α) : Sl E (w.alloc (.cells (E.enc x).toArray E.e)) (some ⟨w.heap.size, 0, none⟩) [x] :=
  ⟨w.heap.size, 0, fun _ => rfl, fun j hj c u hu => by
    have hj0 : j = 0 := by simpa using hj
    subst hj0
    rw [cell_of (at_new w _)]
    simpa using hu⟩
end
/-- So many numbers are read. -/
def pidsN : Nat → ByteArray → Bool → List Int × ByteArray × Bool
  | 0, s, f => ([], s, f)
  | n + 1, s, f => (((pupto 64 s f).1 : Int) :: (pidsN n (pupto 64 s f).2.1 (pupto 64 s f).2.2).1, (pidsN n (pupto 64 s f).2.1 (pupto 64 s f).2.2).2)
def pids (s : ByteArray) (f : Bool) : List Int × ByteArray × Bool := pidsN (pupto 64 s f).1 (pupto 64 s f).2.1 (pupto 64 s f).2.2
theorem pupto_facts (m : Nat) (s : ByteArray) (f : Bool) : (pupto m s f).1 ≤ m ∧ (pupto m s f).2.1.size ≤ s.size := by
  have := pnum_facts s f
  unfold pupto
  split
  · rename_i h; exact ⟨h, this.2⟩
  · exact ⟨Nat.zero_le _, Nat.zero_le _⟩
theorem pidsN_facts : ∀ (n : Nat) (s : ByteArray) (f : Bool), (pidsN n s f).1.length = n ∧ (pidsN n s f).2.1.size ≤ s.size
  | 0, s, f => ⟨rfl, Nat.le_refl _⟩
  | n + 1, s, f => by
    have h1 := pidsN_facts n (pupto 64 s f).2.1 (pupto 64 s f).2.2
    have h2 := pupto_facts 64 s f
    unfold pidsN
    exact ⟨by simp [h1.1], Nat.le_trans h1.2 h2.2⟩
set_option maxRecDepth 100000 in
set_option maxHeartbeats 1000000 in
theorem rids_any {W : World} {b : Nat} {s : ByteArray} {f : Bool} (h : Rst W b s f) (hs : s.size ≤ 150000000000000) : Calls Tryz.prog 68 #[.pointer (some ⟨b, 0, none⟩)] W fun e w' => ∃ a c, e = .returned (.slice a (pids s f).1.length c) ∧ Rq E3 W w' b (pids s f).2.1 (pids s f).2.2 (.slice a (pids s f).1.length c) (pids s f).1 := by
  have HC := hide (upto_any h hs 64 (by omega))
  have hf := pupto_facts 64 s f
  unfold pids
  have HL := hide (lt_of_some h)
  generalize pupto 64 s f = r at *
  obtain ⟨n, s1, f1⟩ := r
  simp only at HC hf ⊢
  have hs1 : s1.size ≤ 150000000000000 := by omega
  have hn64 : n ≤ 64 := hf.1
  have HS := hide hs1
  clear h hs hf hs1
  go_enter Tryz.func68, Tryz.ntmps68
  go_wp2_with (first
    | (go_at_call 111; refine (unhide HC).mono ?_; rintro e w1 ⟨rfl, hr1, hc1⟩; have HR1 := hide (And.intro hr1 hc1); clear hr1 hc1))
  go_loopw [3, 6] (fun vo vk wr => ∃ (k : Nat) (l : List Int) (sk : ByteArray) (fk : Bool), k ≤ n ∧ vk = .int .i64 k ∧ l.length = k ∧ Hid (sk.size ≤ 150000000000000) ∧ Hid (Rq E3 W wr b sk fk vo l) ∧ Hid (pidsN n s1 f1 = (l ++ (pidsN (n - k) sk fk).1, (pidsN (n - k) sk fk).2))) (fun _ vk _ => n - (intOf vk).toNat)
  case atStart => exact ⟨0, [], s1, f1, Nat.zero_le _, rfl, rfl, HS, hide ⟨(unhide HR1).1, El.O.nil _ _, (unhide HR1).2, unhide HL⟩, hide rfl⟩
  case round =>
    obtain ⟨k, l, sk, fk, hk, rfl, hlk, HSk, HQ, HE⟩ := hrel
    by_cases hlt : k < n
    · have hkn : (k : Int) < n := by omega
      have HI := hide (id_any (unhide HQ).r (unhide HSk))
      have hpf := pupto_facts 64 sk fk
      have HSn : Hid ((pupto 64 sk fk).2.1.size ≤ 150000000000000) := hide (Nat.le_trans hpf.2 (unhide HSk))
      have HE2 : Hid (pidsN n s1 f1 = ((l ++ [((pupto 64 sk fk).1 : Int)]) ++ (pidsN (n - (k + 1)) (pupto 64 sk fk).2.1 (pupto 64 sk fk).2.2).1, (pidsN (n - (k + 1)) (pupto 64 sk fk).2.1 (pupto 64 sk fk).2.2).2)) := hide (by
        rw [unhide HE, show n - k = (n - (k + 1)) + 1 by omega]
        simp [pidsN])
      generalize pupto 64 sk fk = r at *
      obtain ⟨x, s2, f2⟩ := r
      simp only at HI HE2 HSn
      have HLk := hide hlk
      clear hpf hlk
      obtain ⟨ao, co, go, hvo, _⟩ := (unhide HQ).o.shape
      rw [unhide HLk] at hvo
      subst hvo
      go_wp2_with (first
        | (go_at_call 65; refine (unhide HI).mono ?_; rintro e w2 ⟨rfl, hr2, hc2⟩; replace HQ := hide ((unhide HQ).read hr2 hc2); clear hr2 hc2)
        | (at_builtin; refine app_el (E := E3) (L := l) [(x : Int)] ((unhide HQ).o.bel ((Bel.refl w2).alloc _)) (Nat.le_trans (unhide HQ).ch.size ((Bel.refl w2).alloc _).size) (some ⟨w2.heap.size, 0, none⟩) 1 1 rfl (sl_one (E := E3) w2 (x : Int)) (by have := unhide HLk; simp; omega) rfl (.tmp 8) (.tmp 11) 25 rfl rfl rfl rfl ?_; intro v5 w5 ho5 hg5; replace HQ := hide ((unhide HQ).app hg5 ho5); clear ho5 hg5))
      go_roundw
      case rel => exact ⟨k + 1, l ++ [(x : Int)], s2, f2, by omega, by go_num, by simp [unhide HLk], HSn, HQ, HE2⟩
      case measure => simp [intOf]; omega
    · obtain rfl : k = n := by omega
      obtain ⟨ao, co, go, hvo, _⟩ := (unhide HQ).o.shape
      have HZ : Hid (pidsN k s1 f1 = (l, sk, fk)) := hide (by rw [unhide HE, Nat.sub_self]; simp [pidsN])
      go_wp2_with fail
      go_ret
      refine ⟨ao, co, ?_, ?_⟩
      · rw [unhide HZ]; exact congrArg Ending.returned hvo
      · rw [unhide HZ, ← hvo]; exact unhide HQ
/-- An entry is read. -/
def pent (s : ByteArray) (f : Bool) : GE × ByteArray × Bool :=
  let t := pnum s f
  let k := pbyte 2 t.2.1 t.2.2
  let d := ptext k.2.1 k.2.2
  let m := pids d.2.1 d.2.2
  (⟨(t.1 : Int), (k.1 : Int), d.1, m.1⟩, m.2)
theorem ptext_facts (s : ByteArray) (f : Bool) : (ptext s f).1.size ≤ s.size ∧ (ptext s f).2.1.size ≤ s.size := by
  have h1 := rText_len s
  have h2 : (rText s).2.1.size ≤ s.size := by
    have h3 := rNum_facts s
    unfold rText
    split
    · exact Nat.zero_le _
    · split
      · exact Nat.zero_le _
      · simp; omega
  unfold ptext
  split
  · exact ⟨h1, h2⟩
  · exact ⟨Nat.zero_le _, Nat.zero_le _⟩
theorem pbyte_facts (m : Nat) (s : ByteArray) (f : Bool) : (pbyte m s f).1 ≤ m ∧ (pbyte m s f).2.1.size ≤ s.size := by
  unfold pbyte
  split
  · exact ⟨Nat.zero_le _, Nat.zero_le _⟩
  · split
    · exact ⟨Nat.zero_le _, Nat.zero_le _⟩
    · exact ⟨by omega, by simp⟩
theorem pids_facts (s : ByteArray) (f : Bool) : (pids s f).1.length ≤ 64 ∧ (pids s f).2.1.size ≤ s.size := by
  have h1 := pupto_facts 64 s f
  have h2 := pidsN_facts (pupto 64 s f).1 (pupto 64 s f).2.1 (pupto 64 s f).2.2
  unfold pids
  exact ⟨by omega, Nat.le_trans h2.2 h1.2⟩
theorem pent_facts (s : ByteArray) (f : Bool) : (pent s f).1.m.length ≤ 64 ∧ (pent s f).1.d.size ≤ s.size ∧ (pent s f).2.1.size ≤ s.size := by
  unfold pent
  have h1 := pnum_facts s f
  generalize pnum s f = r1 at *
  have h2 := pbyte_facts 2 r1.2.1 r1.2.2
  simp only
  generalize pbyte 2 r1.2.1 r1.2.2 = r2 at *
  have h3 := ptext_facts r2.2.1 r2.2.2
  generalize ptext r2.2.1 r2.2.2 = r3 at *
  have h4 := pids_facts r3.2.1 r3.2.2
  generalize pids r3.2.1 r3.2.2 = r4 at *
  exact ⟨h4.1, by omega, by omega⟩
theorem sz23 : (Tryz.prog.info? 23).map (·.size) = some 1 := by kernel_rfl
theorem sz70 : (Tryz.prog.info? 70).map (·.size) = some 1 := by kernel_rfl
theorem sz9 : (Tryz.prog.info? 9).map (·.size) = some 1 := by kernel_rfl
theorem sz25 : (Tryz.prog.info? 25).map (·.size) = some 1 := by kernel_rfl
theorem szEn (x : GE × GA) : (Tryz.prog.info? 72).map (·.size) = some (encG x).toArray.size := by kernel_rfl
theorem zeroE (w : World) : (zeroValue 72).run Tryz.prog w = .ok (.agg (encG (⟨0, 0, ⟨#[]⟩, []⟩, ⟨none, 0⟩)).toArray) w := by unfold encG; go_simp
theorem encG_one (x : GE × GA) : (encG x).toArray.all (·.oneCell') = true := by simp [encG, Value.oneCell']
/-- An entry in its box, beside a reader. -/
structure Eb (W w : World) (b b2 : Nat) (s : ByteArray) (f : Bool) (x : GE × GA) : Prop where
  r : Rst w b s f
  row : w.heap[b2]? = some (.cells (encG x).toArray 72)
  ch : Ch (fun i => i = b) W w
  lt : b < W.heap.size
  ge : W.heap.size ≤ b2
section
variable {W w w' : World} {b b2 : Nat} {s s' : ByteArray} {f f' : Bool} {x x' : GE × GA}
theorem Eb.read (h : Eb W w b b2 s f x) (hr : Rst w' b s' f') (hc : Ch (fun i => i = b) w w') : Eb W w' b b2 s' f' x := ⟨hr, hc.row h.row (by have := h.lt; have := h.ge; omega), Ch.one h.ch hc, h.lt, h.ge⟩
theorem Eb.set (h : Eb W w b b2 s f x) (hr : w'.heap[b2]? = some (.cells (encG x').toArray 72)) (hc : Ch (fun i => i = b2) w w') : Eb W w' b b2 s f x' := ⟨hc.row h.r (by have := h.lt; have := h.ge; omega), hr, h.ch.trans hc (fun i hi => Or.inr (by rw [hi]; exact h.ge)), h.lt, h.ge⟩
end
set_option maxRecDepth 100000 in
set_option maxHeartbeats 1000000 in
theorem rentry_any {W : World} {b : Nat} {s : ByteArray} {f : Bool} (h : Rst W b s f) (hs : s.size ≤ 150000000000000) : Calls Tryz.prog 113 #[.pointer (some ⟨b, 0, none⟩)] W fun e w' => ∃ ga, e = .returned (.agg (encG ((pent s f).1, ga)).toArray) ∧ E3.O W.heap.size w' (.slice ga.a (pent s f).1.m.length ga.c) (pent s f).1.m ∧ Rst w' b (pent s f).2.1 (pent s f).2.2 ∧ Ch (fun i => i = b) W w' := by
  have HN : Hid (∀ W', Rst W' b s f → Calls Tryz.prog 66 #[.pointer (some ⟨b, 0, none⟩)] W' fun e w' => e = .returned (.int .u64 ((pnum s f).1 : Int)) ∧ Rst w' b (pnum s f).2.1 (pnum s f).2.2 ∧ Ch (fun i => i = b) W' w') := hide (fun W' hr => rnum_any hr hs)
  have f1 := (pnum_facts s f).2
  unfold pent
  have HR := hide h
  generalize pnum s f = r1 at *
  obtain ⟨t, s1, g1⟩ := r1
  simp only at HN f1 ⊢
  have HK : Hid (∀ W', Rst W' b s1 g1 → Calls Tryz.prog 64 #[.pointer (some ⟨b, 0, none⟩), .int .u8 2] W' fun e w' => e = .returned (.int .u8 ((pbyte 2 s1 g1).1 : Int)) ∧ Rst w' b (pbyte 2 s1 g1).2.1 (pbyte 2 s1 g1).2.2 ∧ Ch (fun i => i = b) W' w') := hide (fun W' hr => rbyte_any hr (by omega) 2)
  have f2 := (pbyte_facts 2 s1 g1).2
  generalize pbyte 2 s1 g1 = r2 at *
  obtain ⟨k, s2, g2⟩ := r2
  simp only at HK f2 ⊢
  have HT : Hid (∀ W', Rst W' b s2 g2 → Calls Tryz.prog 69 #[.pointer (some ⟨b, 0, none⟩)] W' fun e w' => e = .returned (.string (ptext s2 g2).1) ∧ Rst w' b (ptext s2 g2).2.1 (ptext s2 g2).2.2 ∧ Ch (fun i => i = b) W' w') := hide (fun W' hr => rtext_any hr (by omega))
  have f3 := (ptext_facts s2 g2).2
  generalize ptext s2 g2 = r3 at *
  obtain ⟨d, s3, g3⟩ := r3
  simp only at HT f3 ⊢
  have HI : Hid (∀ W', Rst W' b s3 g3 → Calls Tryz.prog 68 #[.pointer (some ⟨b, 0, none⟩)] W' fun e w' => ∃ a c, e = .returned (.slice a (pids s3 g3).1.length c) ∧ Rq E3 W' w' b (pids s3 g3).2.1 (pids s3 g3).2.2 (.slice a (pids s3 g3).1.length c) (pids s3 g3).1) := hide (fun W' hr => rids_any hr (by omega))
  generalize pids s3 g3 = r4 at *
  obtain ⟨m, s4, g4⟩ := r4
  simp only at HI ⊢
  clear h hs f1 f2 f3
  go_enter Tryz.func113, Tryz.ntmps113
  go_wp2_with (first
    | go_skip
    | (refine bx_new rfl 72 rfl _ zeroE ?_; intro b2 w1 hr1 hs1 hb1; have HB : Hid (Eb W w1 b b2 s f (⟨0, 0, ⟨#[]⟩, []⟩, ⟨none, 0⟩)) := hide ⟨(unhide HR).bel hb1, hr1, hb1.ch _, lt_of_some (unhide HR), Nat.le_of_eq hs1⟩; clear hr1 hs1 hb1)
    | (go_at_call 66; refine ((unhide HN) _ (unhide HB).r).mono ?_; rintro e w2 ⟨rfl, hr2, hc2⟩; replace HB := hide ((unhide HB).read hr2 hc2); clear hr2 hc2)
    | (refine bx_set rfl 23 (.tmp 5) (.tmp 4) rfl b2 0 _ rfl rfl rfl rfl _ 72 (unhide HB).row sz23 (show 0 < 4 by decide) ?_; intro w3 hr3 hc3; replace HB : Hid (Eb W w3 b b2 s1 g1 (⟨(t : Int), 0, ⟨#[]⟩, []⟩, ⟨none, 0⟩)) := hide ((unhide HB).set hr3 hc3); clear hr3 hc3)
    | (go_at_call 64; refine ((unhide HK) _ (unhide HB).r).mono ?_; rintro e w4 ⟨rfl, hr4, hc4⟩; replace HB := hide ((unhide HB).read hr4 hc4); clear hr4 hc4)
    | (refine bx_set rfl 70 (.tmp 8) (.tmp 7) rfl b2 1 _ rfl rfl rfl rfl _ 72 (unhide HB).row sz70 (show 1 < 4 by decide) ?_; intro w5 hr5 hc5; replace HB : Hid (Eb W w5 b b2 s2 g2 (⟨(t : Int), (k : Int), ⟨#[]⟩, []⟩, ⟨none, 0⟩)) := hide ((unhide HB).set hr5 hc5); clear hr5 hc5)
    | (go_at_call 69; refine ((unhide HT) _ (unhide HB).r).mono ?_; rintro e w6 ⟨rfl, hr6, hc6⟩; replace HB := hide ((unhide HB).read hr6 hc6); clear hr6 hc6)
    | (refine bx_set rfl 9 (.tmp 11) (.tmp 10) rfl b2 2 _ rfl rfl rfl rfl _ 72 (unhide HB).row sz9 (show 2 < 4 by decide) ?_; intro w7 hr7 hc7; replace HB : Hid (Eb W w7 b b2 s3 g3 (⟨(t : Int), (k : Int), d, []⟩, ⟨none, 0⟩)) := hide ((unhide HB).set hr7 hc7); clear hr7 hc7)
    | (go_at_call 68; refine ((unhide HI) _ (unhide HB).r).mono ?_; rintro e w8 ⟨a8, c8, rfl, hq8⟩; have HO := hide (hq8.o.mono (unhide HB).ch.size); replace HB := hide ((unhide HB).read hq8.r hq8.ch); clear hq8)
    | (refine bx_set rfl 25 (.tmp 14) (.tmp 13) rfl b2 3 _ rfl rfl rfl rfl _ 72 (unhide HB).row sz25 (show 3 < 4 by decide) ?_; intro w9 hr9 hc9; replace HO := hide ((unhide HO).bx (unhide HB).row (by decide) hc9); replace HB : Hid (Eb W w9 b b2 s4 g4 (⟨(t : Int), (k : Int), d, m⟩, ⟨a8, c8⟩)) := hide ((unhide HB).set hr9 hc9); clear hr9 hc9)
    | (refine bx_ld rfl 72 (.tmp 2) rfl b2 rfl _ _ (unhide HB).row Tryz.underlying72 (szEn _) ?_)
    | (refine bx_st rfl 72 (.tmp 2) (.tmp 15) rfl b2 _ _ rfl rfl (unhide HB).row (szEn _) rfl (encG_one _) ?_; intro w10 hr10 hc10; replace HO := hide ((unhide HO).bx (unhide HB).row (by decide) hc10); replace HB := hide ((unhide HB).set hr10 hc10); clear hr10 hc10))
  exact bodyPost_ret (res1 (p := 2) rfl Tryz.underlying72 (szEn _) (unhide HB).row _ rfl) rfl ⟨⟨a8, c8⟩, rfl, unhide HO, (unhide HB).r, (unhide HB).ch⟩
end Go.Proofs.YtgofdkheffoilaaGreat
