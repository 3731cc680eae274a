/- The document's reader: Num, Byte, Text, Ints, Entry. -/
import Derived.Test.YtgofdkheffoilaaGreatRdy
namespace Go.Proofs.YtgofdkheffoilaaGreat
open Go.RowKit Go.Maps
/-- The document's reader in memory: what is left, and whether something was none. -/
def Rsf (W : World) (b : Nat) (s : ByteArray) (f : Bool) : Prop := W.heap[b]? = some (.cells #[.string s, .bool f] 82)
theorem Rsf.bel {W W' : World} {b : Nat} {s : ByteArray} {f : Bool} (h : Rsf W b s f) (hb : Bel W W') : Rsf W' b s f := Bel.row hb h
theorem Rsf.c0 {W : World} {b : Nat} {s : ByteArray} {f : Bool} (h : Rsf W b s f) : W.cell? ⟨b, 0, none⟩ = some (.string s) := cell_of h
theorem Rsf.c1 {W : World} {b : Nat} {s : ByteArray} {f : Bool} (h : Rsf W b s f) : W.cell? ⟨b, 1, none⟩ = some (.bool f) := cell_of h
theorem Rsf.free {W : World} {b : Nat} {s : ByteArray} {f : Bool} (h : Rsf W b s f) (p : Nat) : W.frozen? ⟨b, p, none⟩ = false := free_row h
theorem Rsf.set0 {W : World} {b : Nat} {s : ByteArray} {f : Bool} (h : Rsf W b s f) (t : ByteArray) : Rsf (W.setCell ⟨b, 0, none⟩ (.string t)) b t f ∧ Ch (fun i => i = b) W (W.setCell ⟨b, 0, none⟩ (.string t)) :=
  ⟨row_set h, Ch.set (ad := ⟨b, 0, none⟩) (Ch.refl (fun i => i = b) W) (Or.inl rfl) _⟩
theorem Rsf.set1 {W : World} {b : Nat} {s : ByteArray} {f : Bool} (h : Rsf W b s f) (g : Bool) : Rsf (W.setCell ⟨b, 1, none⟩ (.bool g)) b s g ∧ Ch (fun i => i = b) W (W.setCell ⟨b, 1, none⟩ (.bool g)) :=
  ⟨row_set h, Ch.set (ad := ⟨b, 1, none⟩) (Ch.refl (fun i => i = b) W) (Or.inl rfl) _⟩
/-- A number of at most that. -/
def qnum (m : Nat) (s : ByteArray) (f : Bool) : Nat × ByteArray × Bool := if (rNum s).2.2 = 0 ∧ (rNum s).1 ≤ m then ((rNum s).1, (rNum s).2.1, f) else (0, s, true)
theorem qnum_facts (m : Nat) (s : ByteArray) (f : Bool) : (qnum m s f).1 ≤ m ∧ (qnum m s f).1 < 18446744073709551616 ∧ (qnum m s f).2.1.size ≤ s.size := by
  have := rNum_facts s
  unfold qnum
  split
  · rename_i h; exact ⟨h.2, this⟩
  · exact ⟨Nat.zero_le _, by omega, Nat.le_refl _⟩
set_option maxRecDepth 100000 in
theorem fnum_any {W : World} {b : Nat} {s : ByteArray} {f : Bool} (h : Rsf W b s f) (hs : s.size ≤ 150000000000000) (m : Nat) : Calls Tryz.prog 31 #[.pointer (some ⟨b, 0, none⟩), .int .u64 (m : Int)] W fun e w' => e = .returned (.int .u64 ((qnum m s f).1 : Int)) ∧ Rsf w' b (qnum m s f).2.1 (qnum m s f).2.2 ∧ Ch (fun i => i = b) W w' := by
  have HC := hide (fun W' => refReadNum_any s hs W')
  have HR := hide h
  have c0 := h.c0
  unfold qnum
  generalize rNum s = r at *
  obtain ⟨n, body, x⟩ := r
  simp only at HC ⊢
  clear h hs
  by_cases hx : x = 0
  · subst hx
    by_cases hn : n ≤ m
    · rw [if_pos ⟨rfl, hn⟩]
      have hle : ¬ ((m : Int) < (n : Int)) := by omega
      clear hn
      go_enter Tryz.func31, Tryz.ntmps31
      go_wp2_with (first
        | (go_at_call 70; refine ((unhide HC) _).mono ?_; rintro e w1 ⟨rfl, hb1⟩; have HR1 := hide (And.intro ((unhide HR).bel hb1) hb1); have d0 := (unhide HR1).1.c0; have f0 := (unhide HR1).1.free 0; clear hb1))
      go_ret
      exact ⟨rfl, ((unhide HR1).1.set0 body).1, Ch.one ((unhide HR1).2.ch _) ((unhide HR1).1.set0 body).2⟩
    · rw [if_neg (fun e => hn e.2)]
      have hle : (m : Int) < (n : Int) := by omega
      clear hn
      go_enter Tryz.func31, Tryz.ntmps31
      go_wp2_with (first
        | (go_at_call 70; refine ((unhide HC) _).mono ?_; rintro e w1 ⟨rfl, hb1⟩; have HR1 := hide (And.intro ((unhide HR).bel hb1) hb1); have d1 := (unhide HR1).1.c1; have f1 := (unhide HR1).1.free 1; clear hb1))
      go_ret
      exact ⟨rfl, ((unhide HR1).1.set1 true).1, Ch.one ((unhide HR1).2.ch _) ((unhide HR1).1.set1 true).2⟩
  · rw [if_neg (fun e => hx e.1)]
    have hxx : (x != 0) = true := by rw [bne_iff_ne]; exact hx
    clear hx
    go_enter Tryz.func31, Tryz.ntmps31
    go_wp2_with (first
      | (go_at_call 70; refine ((unhide HC) _).mono ?_; rintro e w1 ⟨rfl, hb1⟩; have HR1 := hide (And.intro ((unhide HR).bel hb1) hb1); have d1 := (unhide HR1).1.c1; have f1 := (unhide HR1).1.free 1; clear hb1))
    go_ret
    exact ⟨rfl, ((unhide HR1).1.set1 true).1, Ch.one ((unhide HR1).2.ch _) ((unhide HR1).1.set1 true).2⟩
/-- A text. -/
def qtext (s : ByteArray) (f : Bool) : ByteArray × ByteArray × Bool := if (rText s).2.2 = 0 then ((rText s).1, (rText s).2.1, f) else (⟨#[]⟩, s, true)
set_option maxRecDepth 100000 in
theorem ftext_any {W : World} {b : Nat} {s : ByteArray} {f : Bool} (h : Rsf W b s f) (hs : s.size ≤ 150000000000000) : Calls Tryz.prog 34 #[.pointer (some ⟨b, 0, none⟩)] W fun e w' => e = .returned (.string (qtext s f).1) ∧ Rsf w' b (qtext s f).2.1 (qtext s f).2.2 ∧ Ch (fun i => i = b) W w' := by
  have HC := hide (fun W' => crefReadText_any s hs W')
  have HR := hide h
  have c0 := h.c0
  unfold qtext
  generalize rText s = r at *
  obtain ⟨n, body, x⟩ := r
  simp only at HC ⊢
  clear h hs
  by_cases hx : x = 0
  · subst hx
    rw [if_pos rfl]
    go_enter Tryz.func34, Tryz.ntmps34
    go_wp2_with (first
      | (go_at_call 71; refine ((unhide HC) _).mono ?_; rintro e w1 ⟨rfl, hb1⟩; have HR1 := hide (And.intro ((unhide HR).bel hb1) hb1); have d0 := (unhide HR1).1.c0; have f0 := (unhide HR1).1.free 0; clear hb1))
    go_ret
    exact ⟨rfl, ((unhide HR1).1.set0 body).1, Ch.one ((unhide HR1).2.ch _) ((unhide HR1).1.set0 body).2⟩
  · rw [if_neg hx]
    have hxx : (x != 0) = true := by rw [bne_iff_ne]; exact hx
    clear hx
    go_enter Tryz.func34, Tryz.ntmps34
    go_wp2_with (first
      | (go_at_call 71; refine ((unhide HC) _).mono ?_; rintro e w1 ⟨rfl, hb1⟩; have HR1 := hide (And.intro ((unhide HR).bel hb1) hb1); have d1 := (unhide HR1).1.c1; have f1 := (unhide HR1).1.free 1; clear hb1))
    go_ret
    exact ⟨rfl, ((unhide HR1).1.set1 true).1, Ch.one ((unhide HR1).2.ch _) ((unhide HR1).1.set1 true).2⟩
/-- A byte. -/
def qbyte (s : ByteArray) (f : Bool) : Nat × ByteArray × Bool := if s.size = 0 then (0, s, true) else (n0 s, s.extract 1 s.size, f)
set_option maxRecDepth 100000 in
theorem fbyte_any {W : World} {b : Nat} {s : ByteArray} {f : Bool} (h : Rsf W b s f) (hs : s.size ≤ 150000000000000) : Calls Tryz.prog 30 #[.pointer (some ⟨b, 0, none⟩)] W fun e w' => e = .returned (.int .u8 ((qbyte s f).1 : Int)) ∧ Rsf w' b (qbyte s f).2.1 (qbyte s f).2.2 ∧ Ch (fun i => i = b) W w' := by
  have HR := hide h
  have c0 := h.c0
  have c1 := h.c1
  have f0 := h.free 0
  have f1 := h.free 1
  unfold qbyte
  clear h
  by_cases h0 : s.size = 0
  · rw [if_pos h0]
    have he : s = ByteArray.empty := (ba_zero s).2 h0
    subst he
    clear h0
    go_enter Tryz.func30, Tryz.ntmps30
    go_wp2_with fail
    go_ret
    exact ⟨rfl, ((unhide HR).set1 true).1, ((unhide HR).set1 true).2⟩
  · rw [if_neg h0]
    have hp : 0 < s.size := by omega
    have he : s.toList.isEmpty = false := by rw [beq_empty]; exact decide_eq_false h0
    rw [n0_pos hp]
    have hle : (1 : Int) ≤ (s.size : Int) := by omega
    clear h0
    go_enter Tryz.func30, Tryz.ntmps30
    go_wp2_with fail
    go_ret
    exact ⟨rfl, ((unhide HR).set0 _).1, ((unhide HR).set0 _).2⟩
/-- A row that is being built beside the document's reader. -/
structure Rk {α : Type} (E : El α) (W w : World) (b : Nat) (s : ByteArray) (f : Bool) (v : Value) (l : List α) : Prop where
  r : Rsf w b s f
  o : E.O W.heap.size w v l
  ch : Ch (fun i => i = b) W w
  lt : b < W.heap.size
section
variable {α : Type} {E : El α} {W w w' : World} {b : Nat} {s s' : ByteArray} {f f' : Bool} {v v' : Value} {l : List α}
theorem Rk.read (h : Rk E W w b s f v l) (hr : Rsf w' b s' f') (hc : Ch (fun i => i = b) w w') : Rk E W w' b s' f' v l := ⟨hr, h.o.off hc h.lt, Ch.one h.ch hc, h.lt⟩
theorem Rk.app {x : α} {o : Obj} (h : Rk E W w b s f v l) (hg : (w.alloc o).grownBy w' v.ownBlock) (ho : E.O W.heap.size w' v' (l ++ [x])) : Rk E W w' b s f v' (l ++ [x]) := by
  have hr : Rsf (w.alloc o) b s f := h.r.bel ((Bel.refl w).alloc _)
  refine ⟨?_, ho, (h.ch.alloc o).grown hg (fun i hi => Or.inr (h.o.lt hi).1), h.lt⟩
  have hb := hg.block b (lt_of_some hr) (fun e => by have := (h.o.lt e.symm).1; have := h.lt; omega)
  exact hb.trans hr
end
/-- So many numbers are read. -/
def qintsN : Nat → ByteArray → Bool → List Int × ByteArray × Bool
  | 0, s, f => ([], s, f)
  | n + 1, s, f => if f then ([], s, f) else (((qnum 1048576 s f).1 : Int) :: (qintsN n (qnum 1048576 s f).2.1 (qnum 1048576 s f).2.2).1, (qintsN n (qnum 1048576 s f).2.1 (qnum 1048576 s f).2.2).2)
def qints (s : ByteArray) (f : Bool) : List Int × ByteArray × Bool := qintsN (qnum 1048576 s f).1 (qnum 1048576 s f).2.1 (qnum 1048576 s f).2.2
theorem qintsN_facts : ∀ (n : Nat) (s : ByteArray) (f : Bool), (qintsN n s f).1.length ≤ n ∧ (qintsN n s f).2.1.size ≤ s.size
  | 0, s, f => ⟨Nat.le_refl _, Nat.le_refl _⟩
  | n + 1, s, f => by
    have h1 := qintsN_facts n (qnum 1048576 s f).2.1 (qnum 1048576 s f).2.2
    have h2 := qnum_facts 1048576 s f
    unfold qintsN
    split
    · exact ⟨Nat.zero_le _, Nat.le_refl _⟩
    · exact ⟨by simp only [List.length_cons]; omega, Nat.le_trans h1.2 h2.2.2⟩
theorem qints_facts (s : ByteArray) (f : Bool) : (qints s f).1.length ≤ 1048576 ∧ (qints s f).2.1.size ≤ s.size := by
  have h1 := qnum_facts 1048576 s f
  have h2 := qintsN_facts (qnum 1048576 s f).1 (qnum 1048576 s f).2.1 (qnum 1048576 s f).2.2
  unfold qints
  exact ⟨Nat.le_trans h2.1 h1.1, Nat.le_trans h2.2 h1.2.2⟩
set_option maxRecDepth 100000 in
set_option maxHeartbeats 1000000 in
theorem fints_any {W : World} {b : Nat} {s : ByteArray} {f : Bool} (h : Rsf W b s f) (hs : s.size ≤ 150000000000000) : Calls Tryz.prog 33 #[.pointer (some ⟨b, 0, none⟩)] W fun e w' => ∃ a c, e = .returned (.slice a (qints s f).1.length c) ∧ Rk E3 W w' b (qints s f).2.1 (qints s f).2.2 (.slice a (qints s f).1.length c) (qints s f).1 := by
  have HC : Hid (Calls Tryz.prog 31 #[.pointer (some ⟨b, 0, none⟩), .int .u64 1048576] W fun e w' => e = .returned (.int .u64 ((qnum 1048576 s f).1 : Int)) ∧ Rsf w' b (qnum 1048576 s f).2.1 (qnum 1048576 s f).2.2 ∧ Ch (fun i => i = b) W w') := hide (fnum_any h hs 1048576)
  have hf := qnum_facts 1048576 s f
  unfold qints
  have HL := hide (lt_of_some h)
  generalize qnum 1048576 s f = r at *
  obtain ⟨n, s1, f1⟩ := r
  simp only at HC hf ⊢
  have hs1 : s1.size ≤ 150000000000000 := by omega
  have hn20 : n ≤ 1048576 := hf.1
  have HS := hide hs1
  clear h hs hf hs1
  go_enter Tryz.func33, Tryz.ntmps33
  go_wp2_with (first
    | (go_at_call 31; refine (unhide HC).mono ?_; rintro e w1 ⟨rfl, hr1, hc1⟩; have HR1 := hide (And.intro hr1 hc1); clear hr1 hc1))
  go_loopw [3, 5] (fun vo vk wr => ∃ (k : Nat) (l : List Int) (sk : ByteArray) (fk : Bool), k ≤ n ∧ vk = .int .u64 k ∧ l.length = k ∧ Hid (sk.size ≤ 150000000000000) ∧ Hid (Rk E3 W wr b sk fk vo l) ∧ Hid (qintsN n s1 f1 = (l ++ (qintsN (n - k) sk fk).1, (qintsN (n - k) sk fk).2))) (fun _ vk _ => n - (intOf vk).toNat)
  case atStart => exact ⟨0, [], s1, f1, Nat.zero_le _, rfl, rfl, HS, hide ⟨(unhide HR1).1, El.O.nil _ _, (unhide HR1).2, unhide HL⟩, hide rfl⟩
  case round =>
    obtain ⟨k, l, sk, fk, hk, rfl, hlk, HSk, HQ, HE⟩ := hrel
    by_cases hlt : k < n
    · have hkn : (k : Int) < n := by omega
      have c1 := (unhide HQ).r.c1
      cases fk with
      | true =>
        obtain ⟨ao, co, go, hvo, _⟩ := (unhide HQ).o.shape
        have HZ : Hid (qintsN n s1 f1 = (l, sk, true)) := hide (by rw [unhide HE, show n - k = (n - (k + 1)) + 1 by omega]; simp [qintsN])
        go_wp2_with fail
        go_ret
        refine ⟨ao, co, ?_, ?_⟩
        · rw [unhide HZ]; exact congrArg Ending.returned hvo
        · rw [unhide HZ, ← hvo]; exact unhide HQ
      | false =>
        have HI : Hid (Calls Tryz.prog 31 #[.pointer (some ⟨b, 0, none⟩), .int .u64 1048576] wr fun e w' => e = .returned (.int .u64 ((qnum 1048576 sk false).1 : Int)) ∧ Rsf w' b (qnum 1048576 sk false).2.1 (qnum 1048576 sk false).2.2 ∧ Ch (fun i => i = b) wr w') := hide (fnum_any (unhide HQ).r (unhide HSk) 1048576)
        have hpf := qnum_facts 1048576 sk false
        have HSn : Hid ((qnum 1048576 sk false).2.1.size ≤ 150000000000000) := hide (Nat.le_trans hpf.2.2 (unhide HSk))
        have HE2 : Hid (qintsN n s1 f1 = ((l ++ [((qnum 1048576 sk false).1 : Int)]) ++ (qintsN (n - (k + 1)) (qnum 1048576 sk false).2.1 (qnum 1048576 sk false).2.2).1, (qintsN (n - (k + 1)) (qnum 1048576 sk false).2.1 (qnum 1048576 sk false).2.2).2)) := hide (by
          rw [unhide HE, show n - k = (n - (k + 1)) + 1 by omega]
          simp [qintsN])
        generalize qnum 1048576 sk false = r at *
        obtain ⟨x, s2, f2⟩ := r
        simp only at HI HE2 HSn hpf
        have hxw : IntKind.i64.wrap (x : Int) = (x : Int) := wrapI (by omega) (by omega)
        have hkw : IntKind.u64.wrap ((k : Int) + 1) = (k : Int) + 1 := by rw [IntKind.wrap_u64]; omega
        have HLk := hide hlk
        clear hpf hlk
        obtain ⟨ao, co, go, hvo, _⟩ := (unhide HQ).o.shape
        rw [unhide HLk] at hvo
        subst hvo
        go_wp2_with (first
          | (go_at_call 31; refine (unhide HI).mono ?_; rintro e w2 ⟨rfl, hr2, hc2⟩; replace HQ := hide ((unhide HQ).read hr2 hc2); clear hr2 hc2)
          | (at_builtin; refine app_el (E := E3) (L := l) [(x : Int)] ((unhide HQ).o.bel ((Bel.refl w2).alloc _)) (Nat.le_trans (unhide HQ).ch.size ((Bel.refl w2).alloc _).size) (some ⟨w2.heap.size, 0, none⟩) 1 1 rfl (sl_one (E := E3) w2 (x : Int)) (by have := unhide HLk; simp; omega) rfl (.tmp 20) (.tmp 24) 25 rfl rfl rfl rfl ?_; intro v5 w5 ho5 hg5; replace HQ := hide ((unhide HQ).app hg5 ho5); clear ho5 hg5))
        go_roundw
        case rel => exact ⟨k + 1, l ++ [(x : Int)], s2, f2, by omega, by go_num, by simp [unhide HLk], HSn, HQ, HE2⟩
        case measure => simp [intOf]; omega
    · obtain rfl : k = n := by omega
      obtain ⟨ao, co, go, hvo, _⟩ := (unhide HQ).o.shape
      have HZ : Hid (qintsN k s1 f1 = (l, sk, fk)) := hide (by rw [unhide HE, Nat.sub_self]; simp [qintsN])
      go_wp2_with fail
      go_ret
      refine ⟨ao, co, ?_, ?_⟩
      · rw [unhide HZ]; exact congrArg Ending.returned hvo
      · rw [unhide HZ, ← hvo]; exact unhide HQ
/-- An entry in its box, beside the document's reader. -/
structure Ec (W w : World) (b b2 b3 : Nat) (s : ByteArray) (f : Bool) (x : GE × GA) : Prop where
  r : Rsf w b s f
  row : w.heap[b2]? = some (.cells (encG x).toArray 72)
  ch : Ch (fun i => i = b) W w
  lt : b < W.heap.size
  ge : W.heap.size ≤ b2
  row2 : ∃ y, w.heap[b3]? = some (.cells (encG y).toArray 72)
  ge2 : W.heap.size ≤ b3
  ne : b3 ≠ b2
section
variable {W w w' : World} {b b2 b3 : Nat} {s s' : ByteArray} {f f' : Bool} {x x' : GE × GA}
theorem Ec.read (h : Ec W w b b2 b3 s f x) (hr : Rsf w' b s' f') (hc : Ch (fun i => i = b) w w') : Ec W w' b b2 b3 s' f' x := ⟨hr, hc.row h.row (by have := h.lt; have := h.ge; omega), Ch.one h.ch hc, h.lt, h.ge, (by obtain ⟨y, hy⟩ := h.row2; exact ⟨y, hc.row hy (by have := h.lt; have := h.ge2; omega)⟩), h.ge2, h.ne⟩
theorem Ec.set (h : Ec W w b b2 b3 s f x) (hr : w'.heap[b2]? = some (.cells (encG x').toArray 72)) (hc : Ch (fun i => i = b2) w w') : Ec W w' b b2 b3 s f x' := ⟨hc.row h.r (by have := h.lt; have := h.ge; omega), hr, h.ch.trans hc (fun i hi => Or.inr (by rw [hi]; exact h.ge)), h.lt, h.ge, (by obtain ⟨y, hy⟩ := h.row2; exact ⟨y, hc.row hy h.ne⟩), h.ge2, h.ne⟩
end
/-- An entry is read. -/
def qent (s : ByteArray) (f : Bool) : GE × ByteArray × Bool :=
  let t := qnum 18446744073709551615 s f
  let k := qbyte t.2.1 t.2.2
  let d := qtext k.2.1 k.2.2
  let m := qints d.2.1 d.2.2
  (⟨(t.1 : Int), (k.1 : Int), d.1, m.1⟩, m.2)
theorem qtext_facts (s : ByteArray) (f : Bool) : (qtext s f).1.size ≤ s.size ∧ (qtext s f).2.1.size ≤ s.size := by
  have h := ptext_facts s f
  unfold ptext at h
  unfold qtext
  split
  · rename_i h1; rw [if_pos h1] at h; exact h
  · exact ⟨Nat.zero_le _, Nat.le_refl _⟩
theorem qbyte_facts (s : ByteArray) (f : Bool) : (qbyte s f).2.1.size ≤ s.size := by
  unfold qbyte
  split
  · exact Nat.le_refl _
  · simp
theorem qent_facts (s : ByteArray) (f : Bool) : (qent s f).1.m.length ≤ 1048576 ∧ (qent s f).1.d.size ≤ s.size ∧ (qent s f).2.1.size ≤ s.size := by
  unfold qent
  have h1 := (qnum_facts 18446744073709551615 s f).2.2
  generalize qnum 18446744073709551615 s f = r1 at *
  have h2 := qbyte_facts r1.2.1 r1.2.2
  simp only
  generalize qbyte r1.2.1 r1.2.2 = r2 at *
  have h3 := qtext_facts r2.2.1 r2.2.2
  generalize qtext r2.2.1 r2.2.2 = r3 at *
  have h4 := qints_facts r3.2.1 r3.2.2
  generalize qints r3.2.1 r3.2.2 = r4 at *
  exact ⟨h4.1, by omega, by omega⟩
set_option maxRecDepth 100000 in
set_option maxHeartbeats 1000000 in
theorem fentry_any {W : World} {b : Nat} {s : ByteArray} {f : Bool} (h : Rsf W b s f) (hs : s.size ≤ 150000000000000) : Calls Tryz.prog 32 #[.pointer (some ⟨b, 0, none⟩)] W fun e w' => ∃ ga, e = .returned (.agg (encG ((qent s f).1, ga)).toArray) ∧ E3.O W.heap.size w' (.slice ga.a (qent s f).1.m.length ga.c) (qent s f).1.m ∧ Rsf w' b (qent s f).2.1 (qent s f).2.2 ∧ Ch (fun i => i = b) W w' := by
  have HN : Hid (∀ W', Rsf W' b s f → Calls Tryz.prog 31 #[.pointer (some ⟨b, 0, none⟩), .int .u64 18446744073709551615] W' fun e w' => e = .returned (.int .u64 ((qnum 18446744073709551615 s f).1 : Int)) ∧ Rsf w' b (qnum 18446744073709551615 s f).2.1 (qnum 18446744073709551615 s f).2.2 ∧ Ch (fun i => i = b) W' w') := hide (fun W' hr => fnum_any hr hs 18446744073709551615)
  have f1 := (qnum_facts 18446744073709551615 s f).2.2
  unfold qent
  have HR := hide h
  generalize qnum 18446744073709551615 s f = r1 at *
  obtain ⟨t, s1, g1⟩ := r1
  simp only at HN f1 ⊢
  have HK : Hid (∀ W', Rsf W' b s1 g1 → Calls Tryz.prog 30 #[.pointer (some ⟨b, 0, none⟩)] W' fun e w' => e = .returned (.int .u8 ((qbyte s1 g1).1 : Int)) ∧ Rsf w' b (qbyte s1 g1).2.1 (qbyte s1 g1).2.2 ∧ Ch (fun i => i = b) W' w') := hide (fun W' hr => fbyte_any hr (by omega))
  have f2 := (qbyte_facts s1 g1)
  generalize qbyte s1 g1 = r2 at *
  obtain ⟨k, s2, g2⟩ := r2
  simp only at HK f2 ⊢
  have HT : Hid (∀ W', Rsf W' b s2 g2 → Calls Tryz.prog 34 #[.pointer (some ⟨b, 0, none⟩)] W' fun e w' => e = .returned (.string (qtext s2 g2).1) ∧ Rsf w' b (qtext s2 g2).2.1 (qtext s2 g2).2.2 ∧ Ch (fun i => i = b) W' w') := hide (fun W' hr => ftext_any hr (by omega))
  have f3 := (qtext_facts s2 g2).2
  generalize qtext s2 g2 = r3 at *
  obtain ⟨d, s3, g3⟩ := r3
  simp only at HT f3 ⊢
  have HI : Hid (∀ W', Rsf W' b s3 g3 → Calls Tryz.prog 33 #[.pointer (some ⟨b, 0, none⟩)] W' fun e w' => ∃ a c, e = .returned (.slice a (qints s3 g3).1.length c) ∧ Rk E3 W' w' b (qints s3 g3).2.1 (qints s3 g3).2.2 (.slice a (qints s3 g3).1.length c) (qints s3 g3).1) := hide (fun W' hr => fints_any hr (by omega))
  generalize qints s3 g3 = r4 at *
  obtain ⟨m, s4, g4⟩ := r4
  simp only at HI ⊢
  clear h hs f1 f2 f3
  go_enter Tryz.func32, Tryz.ntmps32
  go_wp2_with (first
    | go_skip
    | (refine bx_new rfl 72 rfl _ zeroE ?_; intro b2 w1 hr1 hs1 hb1; have HB : Hid (Ec W w1 b b2 b3 s f (⟨0, 0, ⟨#[]⟩, []⟩, ⟨none, 0⟩)) := hide ⟨(unhide HR).bel ((unhide HA).2.1.trans hb1), hr1, ((unhide HA).2.1.trans hb1).ch _, lt_of_some (unhide HR), (show W.heap.size ≤ b2 by have := (unhide HA).2.1.size; omega), ⟨_, hb1.row (unhide HA).1⟩, (unhide HA).2.2, (show b3 ≠ b2 from fun e => by have := lt_of_some (unhide HA).1; omega)⟩; clear hr1 hs1 hb1)
    | (refine bx_new rfl 72 rfl _ zeroE ?_; intro b3 w0 hr0 hs0 hb0; have HA := hide (And.intro hr0 (And.intro hb0 (Nat.le_of_eq hs0))); clear hr0 hs0 hb0)
    | (go_at_call 31; refine ((unhide HN) _ (unhide HB).r).mono ?_; rintro e w2 ⟨rfl, hr2, hc2⟩; replace HB := hide ((unhide HB).read hr2 hc2); clear hr2 hc2)
    | (refine bx_set rfl 23 (.tmp 6) (.tmp 5) rfl b2 0 _ rfl rfl rfl rfl _ 72 (unhide HB).row sz23 (show 0 < 4 by decide) ?_; intro w3 hr3 hc3; replace HB : Hid (Ec W w3 b b2 b3 s1 g1 (⟨(t : Int), 0, ⟨#[]⟩, []⟩, ⟨none, 0⟩)) := hide ((unhide HB).set hr3 hc3); clear hr3 hc3)
    | (go_at_call 30; refine ((unhide HK) _ (unhide HB).r).mono ?_; rintro e w4 ⟨rfl, hr4, hc4⟩; replace HB := hide ((unhide HB).read hr4 hc4); clear hr4 hc4)
    | (refine bx_set rfl 70 (.tmp 9) (.tmp 8) rfl b2 1 _ rfl rfl rfl rfl _ 72 (unhide HB).row sz70 (show 1 < 4 by decide) ?_; intro w5 hr5 hc5; replace HB : Hid (Ec W w5 b b2 b3 s2 g2 (⟨(t : Int), (k : Int), ⟨#[]⟩, []⟩, ⟨none, 0⟩)) := hide ((unhide HB).set hr5 hc5); clear hr5 hc5)
    | (go_at_call 34; refine ((unhide HT) _ (unhide HB).r).mono ?_; rintro e w6 ⟨rfl, hr6, hc6⟩; replace HB := hide ((unhide HB).read hr6 hc6); clear hr6 hc6)
    | (refine bx_set rfl 9 (.tmp 12) (.tmp 11) rfl b2 2 _ rfl rfl rfl rfl _ 72 (unhide HB).row sz9 (show 2 < 4 by decide) ?_; intro w7 hr7 hc7; replace HB : Hid (Ec W w7 b b2 b3 s3 g3 (⟨(t : Int), (k : Int), d, []⟩, ⟨none, 0⟩)) := hide ((unhide HB).set hr7 hc7); clear hr7 hc7)
    | (go_at_call 33; refine ((unhide HI) _ (unhide HB).r).mono ?_; rintro e w8 ⟨a8, c8, rfl, hq8⟩; have HO := hide (hq8.o.mono (unhide HB).ch.size); replace HB := hide ((unhide HB).read hq8.r hq8.ch); clear hq8)
    | (refine bx_set rfl 25 (.tmp 15) (.tmp 14) rfl b2 3 _ rfl rfl rfl rfl _ 72 (unhide HB).row sz25 (show 3 < 4 by decide) ?_; intro w9 hr9 hc9; replace HO := hide ((unhide HO).bx (unhide HB).row (by decide) hc9); replace HB : Hid (Ec W w9 b b2 b3 s4 g4 (⟨(t : Int), (k : Int), d, m⟩, ⟨a8, c8⟩)) := hide ((unhide HB).set hr9 hc9); clear hr9 hc9)
    | (refine bx_ld rfl 72 (.tmp 3) rfl b2 rfl _ _ (unhide HB).row Tryz.underlying72 (szEn _) ?_)
    | (obtain ⟨y, hy⟩ := (unhide HB).row2; refine bx_st rfl 72 (.tmp 2) (.tmp 16) rfl b3 _ _ rfl rfl hy (szEn _) rfl (encG_one _) ?_; intro w10 hr10 hc10; replace HO := hide ((unhide HO).bx hy (by decide) hc10); have HZ := hide (And.intro hr10 (And.intro (hc10.row (unhide HB).r (show b ≠ b3 by have := (unhide HB).lt; have := (unhide HB).ge2; omega)) ((unhide HB).ch.trans hc10 (fun i hi => Or.inr (show W.heap.size ≤ i by rw [hi]; exact (unhide HB).ge2))))); clear hr10 hc10 hy))
  exact bodyPost_ret (res1 (p := 2) rfl Tryz.underlying72 (szEn _) (unhide HZ).1 _ rfl) rfl ⟨⟨a8, c8⟩, rfl, unhide HO, (unhide HZ).2.1, (unhide HZ).2.2⟩
end Go.Proofs.YtgofdkheffoilaaGreat
