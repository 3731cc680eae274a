/- May of any member. A member's fields in its box. Down. winIfMost. The library's SortFunc at indices, laid in plain words for this program. Indices in order, the greatest first: the library's SortFunc. What a majority has. -/
import Derived.Test.YthekbhliokcpcaaGreatT07
import Derived.Test.YthekbhliokcpcaaGreatT08
import Derived.Test.YthekbhliokcpcaaGreatT01
import Derived.Test.YthekbhliokcpcaaGreatT04
import Derived.Shelf.SlSortCmp.NoneTotal
import Derived.Test.YthekbhliokcpcaaGreatProg
namespace Go.Proofs.YthekbhliokcpcaaGreat
open Go.RowKit Go.Maps Go.Sort
def mayG (s : GP) : Bool := numB s && (logB s && (memB s && rolB s))
theorem ids_len : ∀ (l : List Int) (b : Int), aids b l = true → (l.length : Int) ≤ 64 - b ∨ l = []
 | [], _, _ => Or.inr rfl
 | x :: l, b, h => by
  unfold aids at h
  simp only [Bool.and_eq_true, Bool.not_eq_true', decide_eq_false_iff_not] at h
  obtain ⟨⟨h1, h2⟩, h3⟩ := h
  unfold idB at h2
  simp only [Bool.and_eq_true, decide_eq_true_eq] at h2
  left
  rcases ids_len l x h3 with h4 | h4
  ·rw [List.length_cons]; omega
  ·rw [h4]; simp; omega
theorem ids64 {l : List Int} (h : aids 0 l = true) : l.length ≤ 64 := by
 rcases ids_len l 0 h with h1 | h1
 ·omega
 ·rw [h1]; decide
theorem mayEs_mem {lo hi : Int} : ∀ {l : List GE}, mayEs lo hi l = true → ∀ e ∈ l, mayE e = true ∧ e.t ≠ 0 ∧ e.t ≤ hi
 | [], _, e, he => by cases he
 | y :: l, h, e, he => by
  unfold mayEs at h
  simp only [Bool.and_eq_true, Bool.not_eq_true', decide_eq_false_iff_not, beq_eq_false_iff_ne] at h
  rcases List.mem_cons.1 he with e1 | e1
  ·rw [e1]; exact ⟨h.1.2, h.1.1.1.1, by omega⟩
  ·exact mayEs_mem h.2 e e1
theorem mayE_ids {e : GE} (h : mayE e = true) (h2 : e.k = 2) : 0 < e.m.length ∧ aids 0 e.m = true := by
 unfold mayE at h
 rw [if_neg (by omega), if_neg (by omega), if_pos h2] at h
 simp only [Bool.and_eq_true, decide_eq_true_eq] at h
 exact h.1
theorem memOf_ids : ∀ (l : List GE) (B : List Int), (0 < B.length ∧ aids 0 B = true) → (∀ e ∈ l, mayE e = true) → 0 < (memOf B l).length ∧ aids 0 (memOf B l) = true
 | [], B, h, _ => h
 | e :: l, B, h, hl => by
  unfold memOf
  refine memOf_ids l _ ?_ (fun y hy => hl y (List.mem_cons_of_mem _ hy))
  by_cases k : e.k = 2
  ·rw [if_pos k]; exact mayE_ids (hl e List.mem_cons_self) k
  ·rw [if_neg k]; exact h
theorem logB_es {s : GP} (h : logB s = true) : mayEs s.baseT s.term s.log = true := by
 unfold logB at h
 simp only [Bool.and_eq_true] at h
 exact h.2.2.2.1
theorem mem_ids {s : GP} (hl : logB s = true) (h : memB s = true) : 0 < s.M.length ∧ aids 0 s.M = true := by
 unfold memB at h
 simp only [Bool.and_eq_true, decide_eq_true_eq] at h
 rw [h.2]
 exact memOf_ids _ _ h.1 (fun e he => (mayEs_mem (logB_es hl) e he).1)
theorem mem64 {s : GP} (hl : logB s = true) (h : memB s = true) : 0 < s.M.length ∧ s.M.length ≤ 64 := ⟨(mem_ids hl h).1, ids64 (mem_ids hl h).2⟩
set_option maxRecDepth 100000 in
set_option maxHeartbeats 8000000 in
theorem may_g {W : World} {s : GP} {x : Px} (h : Gp W s x) (hz : Gz s x) : Calls Tryz.prog 42 #[.agg (gc s x)] W fun e w' => e = .returned (.int .i64 (if mayG s then 0 else 2)) ∧ Bel W w' := by
 have H1 : Hid (∀ W', Calls Tryz.prog 103 #[.agg (gc s x)] W' fun e w' => e = .returned (.bool (numB s)) ∧ Bel W' w') := jd (fun W' => numbers_g)
 have hb62 : numB s = true → s.base ≤ 4611686018427387904 := fun h => by
  unfold numB at h
  simp only [Bool.and_eq_true, decide_eq_true_eq] at h
  exact h.2.2.2.2.2.1
 have H2 : Hid (numB s = true → ∀ W', Bel W W' → Calls Tryz.prog 104 #[.agg (gc s x)] W' fun e w' => e = .returned (.bool (logB s)) ∧ Bel W' w') := jd (fun hn W' hb => log_g (h.l.bel hb) hz.base.1 (hb62 hn) (by have := hz.l; omega) hz.lm)
 have H3 : Hid (∀ W', Bel W W' → Calls Tryz.prog 105 #[.agg (gc s x)] W' fun e w' => e = .returned (.bool (memB s)) ∧ Bel W' w') := jd (fun W' hb => mems_g (h.bel hb) hz.m hz.b (by have := hz.l; omega) hz.cap)
 have H4 : Hid (numB s = true → logB s = true → memB s = true → ∀ W', Bel W W' → Calls Tryz.prog 106 #[.agg (gc s x)] W' fun e w' => e = .returned (.bool (rolB s)) ∧ Bel W' w') := jd (fun hn hlg hm W' hb => by
  obtain ⟨p1, p2⟩ := mem64 hlg hm
  exact role_g (h.bel hb) hz.base.1 (hb62 hn) p1 (by omega) hz.v (by have := hz.l; omega) (by have := hz.r; omega) hz.ra)
 clear h hz hb62
 unfold mayG
 generalize rolB s = br at *
 cases q1 : numB s with
 | false =>
  rw [q1] at H1
  clear H2 H4
  rw [Bool.false_and, if_neg (by decide)]
  go_enter Tryz.func42, Tryz.ntmps42
  go_wp2_with (first
   | go_skip
   | (refine bx_boxK 31 (.tmp 0) (by exact rfl) (by exact rfl) (gc s x) (by exact rfl) ?_; intro b w0 hr0 hs0 hb0; have HR0 := jd hr0; have HB0 := jd hb0; clear hr0 hs0 hb0)
   | (refine bx_ldK 31 (.tmp 1) (by exact rfl) b (by exact rfl) (by exact rfl) (gc s x) _ (ju HR0) u31 (zP s x) ?_)
   | go_guarded
   | (go_at_call 103; refine ((ju H1) _).mono ?_; rintro e w1 ⟨rfl, hb1⟩; replace HR0 := jd (hb1.row (ju HR0)); replace HB0 := jd ((ju HB0).trans hb1); clear hb1)
   | (go_at_call 104; refine ((ju H1) _ (ju HB0)).mono ?_; rintro e w2 ⟨rfl, hb1⟩; replace HR0 := jd (hb1.row (ju HR0)); replace HB0 := jd ((ju HB0).trans hb1); clear hb1)
   | (go_at_call 105; refine ((ju H3) _ (ju HB0)).mono ?_; rintro e w3 ⟨rfl, hb1⟩; replace HR0 := jd (hb1.row (ju HR0)); replace HB0 := jd ((ju HB0).trans hb1); clear hb1)
   | (go_at_call 106; refine ((ju H4) _ (ju HB0)).mono ?_; rintro e w4 ⟨rfl, hb1⟩; replace HR0 := jd (hb1.row (ju HR0)); replace HB0 := jd ((ju HB0).trans hb1); clear hb1))
  go_ret
  exact ⟨rfl, ju HB0⟩
 | true =>
  rw [q1] at H1 H2 H4
  rw [Bool.true_and]
  replace H2 := jd ((ju H2) rfl)
  cases q2 : logB s with
  | false =>
   rw [q2] at H2
   clear H4
   rw [Bool.false_and, if_neg (by decide)]
   go_enter Tryz.func42, Tryz.ntmps42
   go_wp2_with (first
    | go_skip
    | (refine bx_boxK 31 (.tmp 0) (by exact rfl) (by exact rfl) (gc s x) (by exact rfl) ?_; intro b w0 hr0 hs0 hb0; have HR0 := jd hr0; have HB0 := jd hb0; clear hr0 hs0 hb0)
    | (refine bx_ldK 31 (.tmp 1) (by exact rfl) b (by exact rfl) (by exact rfl) (gc s x) _ (ju HR0) u31 (zP s x) ?_)
    | go_guarded
    | (go_at_call 103; refine ((ju H1) _).mono ?_; rintro e w1 ⟨rfl, hb1⟩; replace HR0 := jd (hb1.row (ju HR0)); replace HB0 := jd ((ju HB0).trans hb1); clear hb1)
    | (go_at_call 104; refine ((ju H2) _ (ju HB0)).mono ?_; rintro e w2 ⟨rfl, hb1⟩; replace HR0 := jd (hb1.row (ju HR0)); replace HB0 := jd ((ju HB0).trans hb1); clear hb1)
    | (go_at_call 105; refine ((ju H3) _ (ju HB0)).mono ?_; rintro e w3 ⟨rfl, hb1⟩; replace HR0 := jd (hb1.row (ju HR0)); replace HB0 := jd ((ju HB0).trans hb1); clear hb1)
    | (go_at_call 106; refine ((ju H4) _ (ju HB0)).mono ?_; rintro e w4 ⟨rfl, hb1⟩; replace HR0 := jd (hb1.row (ju HR0)); replace HB0 := jd ((ju HB0).trans hb1); clear hb1))
   go_ret
   exact ⟨rfl, ju HB0⟩
  | true =>
   rw [q2] at H2 H4
   rw [Bool.true_and]
   cases q3 : memB s with
   | false =>
    rw [q3] at H3
    clear H4
    rw [Bool.false_and, if_neg (by decide)]
    go_enter Tryz.func42, Tryz.ntmps42
    go_wp2_with (first
     | go_skip
     | (refine bx_boxK 31 (.tmp 0) (by exact rfl) (by exact rfl) (gc s x) (by exact rfl) ?_; intro b w0 hr0 hs0 hb0; have HR0 := jd hr0; have HB0 := jd hb0; clear hr0 hs0 hb0)
     | (refine bx_ldK 31 (.tmp 1) (by exact rfl) b (by exact rfl) (by exact rfl) (gc s x) _ (ju HR0) u31 (zP s x) ?_)
     | go_guarded
     | (go_at_call 103; refine ((ju H1) _).mono ?_; rintro e w1 ⟨rfl, hb1⟩; replace HR0 := jd (hb1.row (ju HR0)); replace HB0 := jd ((ju HB0).trans hb1); clear hb1)
     | (go_at_call 104; refine ((ju H2) _ (ju HB0)).mono ?_; rintro e w2 ⟨rfl, hb1⟩; replace HR0 := jd (hb1.row (ju HR0)); replace HB0 := jd ((ju HB0).trans hb1); clear hb1)
     | (go_at_call 105; refine ((ju H3) _ (ju HB0)).mono ?_; rintro e w3 ⟨rfl, hb1⟩; replace HR0 := jd (hb1.row (ju HR0)); replace HB0 := jd ((ju HB0).trans hb1); clear hb1)
     | (go_at_call 106; refine ((ju H4) _ (ju HB0)).mono ?_; rintro e w4 ⟨rfl, hb1⟩; replace HR0 := jd (hb1.row (ju HR0)); replace HB0 := jd ((ju HB0).trans hb1); clear hb1))
    go_ret
    exact ⟨rfl, ju HB0⟩
   | true =>
    rw [q3] at H3 H4
    rw [Bool.true_and]
    replace H4 := jd ((ju H4) rfl rfl rfl)
    cases br with
    | false =>
     rw [if_neg (by decide)]
     go_enter Tryz.func42, Tryz.ntmps42
     go_wp2_with (first
      | go_skip
      | (refine bx_boxK 31 (.tmp 0) (by exact rfl) (by exact rfl) (gc s x) (by exact rfl) ?_; intro b w0 hr0 hs0 hb0; have HR0 := jd hr0; have HB0 := jd hb0; clear hr0 hs0 hb0)
      | (refine bx_ldK 31 (.tmp 1) (by exact rfl) b (by exact rfl) (by exact rfl) (gc s x) _ (ju HR0) u31 (zP s x) ?_)
      | go_guarded
      | (go_at_call 103; refine ((ju H1) _).mono ?_; rintro e w1 ⟨rfl, hb1⟩; replace HR0 := jd (hb1.row (ju HR0)); replace HB0 := jd ((ju HB0).trans hb1); clear hb1)
      | (go_at_call 104; refine ((ju H2) _ (ju HB0)).mono ?_; rintro e w2 ⟨rfl, hb1⟩; replace HR0 := jd (hb1.row (ju HR0)); replace HB0 := jd ((ju HB0).trans hb1); clear hb1)
      | (go_at_call 105; refine ((ju H3) _ (ju HB0)).mono ?_; rintro e w3 ⟨rfl, hb1⟩; replace HR0 := jd (hb1.row (ju HR0)); replace HB0 := jd ((ju HB0).trans hb1); clear hb1)
      | (go_at_call 106; refine ((ju H4) _ (ju HB0)).mono ?_; rintro e w4 ⟨rfl, hb1⟩; replace HR0 := jd (hb1.row (ju HR0)); replace HB0 := jd ((ju HB0).trans hb1); clear hb1))
     go_ret
     exact ⟨rfl, ju HB0⟩
    | true =>
     rw [if_pos rfl]
     go_enter Tryz.func42, Tryz.ntmps42
     go_wp2_with (first
      | go_skip
      | (refine bx_boxK 31 (.tmp 0) (by exact rfl) (by exact rfl) (gc s x) (by exact rfl) ?_; intro b w0 hr0 hs0 hb0; have HR0 := jd hr0; have HB0 := jd hb0; clear hr0 hs0 hb0)
      | (refine bx_ldK 31 (.tmp 1) (by exact rfl) b (by exact rfl) (by exact rfl) (gc s x) _ (ju HR0) u31 (zP s x) ?_)
      | go_guarded
      | (go_at_call 103; refine ((ju H1) _).mono ?_; rintro e w1 ⟨rfl, hb1⟩; replace HR0 := jd (hb1.row (ju HR0)); replace HB0 := jd ((ju HB0).trans hb1); clear hb1)
      | (go_at_call 104; refine ((ju H2) _ (ju HB0)).mono ?_; rintro e w2 ⟨rfl, hb1⟩; replace HR0 := jd (hb1.row (ju HR0)); replace HB0 := jd ((ju HB0).trans hb1); clear hb1)
      | (go_at_call 105; refine ((ju H3) _ (ju HB0)).mono ?_; rintro e w3 ⟨rfl, hb1⟩; replace HR0 := jd (hb1.row (ju HR0)); replace HB0 := jd ((ju HB0).trans hb1); clear hb1)
      | (go_at_call 106; refine ((ju H4) _ (ju HB0)).mono ?_; rintro e w4 ⟨rfl, hb1⟩; replace HR0 := jd (hb1.row (ju HR0)); replace HB0 := jd ((ju HB0).trans hb1); clear hb1))
     go_ret
     exact ⟨rfl, ju HB0⟩
end Go.Proofs.YthekbhliokcpcaaGreat
namespace Go.Proofs.YthekbhliokcpcaaGreat
structure QM where
 kind : Int
 frm : Int
 to : Int
 term : Int
 index : Nat
 lterm : Int
 commit : Nat
 ok : Bool
 ents : List PE
def PM.q (m : PM) : QM := ⟨m.kind, m.frm, m.to, m.term, m.index.toNat, m.lterm, 0, m.ok, []⟩
def QM.p (m : QM) : PM := ⟨m.kind, m.frm, m.to, m.term, m.index, m.lterm, m.ok⟩
def tAt (l : List PE) : Nat → Int
 | 0 => 0
 | i + 1 => match l[i]? with | some e => e.t | none => 0
def insD (x : Int) : List Int → List Int
 | [] => [x]
 | y :: l => if y ≤ x then x :: y :: l else y :: insD x l
def srtD : List Int → List Int
 | [] => []
 | x :: l => insD x (srtD l)
def most (l : List Int) : Int := (srtD l).getD (l.length / 2) 0
def PP.have (s : PP) : List Int := s.lastI :: s.fol.map (·.2.2)
def PP.adv (s : PP) : PP := { s with commit := if tAt s.log (most s.have).toNat = s.term then max s.commit (most s.have).toNat else s.commit }
def PP.msg (s : PP) (f : Int × Int × Int) : QM := ⟨3, s.id, f.1, s.term, (f.2.1 - 1).toNat, tAt s.log (f.2.1 - 1).toNat, s.commit, false, (s.log.drop (f.2.1 - 1).toNat).take 16⟩
def PP.beat (s : PP) : PP × List QM := if s.idle + 1 < 3 then ({ s with idle := s.idle + 1 }, []) else ({ s with idle := 0 }, s.fol.map s.msg)
def PP.ltick (n : Nat) (s : PP) (draw : Int) : PP × List QM :=
 if (s.tick n draw).1.role = 2 then (if s.role = 2 then (s.tick n draw).1.adv.beat else ((s.tick n draw).1.adv, (s.tick n draw).2.map PM.q)) else ((s.tick n draw).1, (s.tick n draw).2.map PM.q)
def PP.more (s : PP) (d : ByteArray) : PP := { s with log := s.log ++ [⟨s.term, 0, d⟩] }
def PP.prop (s : PP) (d : ByteArray) : PP := (s.more d).adv
def PP.hrd (s : PP) (to : Int) (ok : Bool) (i : Nat) : QM := ⟨4, s.id, to, s.term, i, 0, 0, ok, []⟩
def mt (log : List PE) (b : Nat) : List PE → Nat
 | [] => 0
 | e :: l => match log[b]? with | some x => (if x.t = e.t then mt log (b + 1) l + 1 else 0) | none => 0
def PP.join (s : PP) (b : Nat) (l : List PE) : Option PP :=
 if mt s.log b l = l.length then some s else if b + mt s.log b l + 1 ≤ s.commit then none else some { s with log := s.log.take (b + mt s.log b l) ++ l.drop (mt s.log b l) }
def PP.lay (s : PP) (m : QM) : PP × List QM :=
 if s.log.length < m.index ∨ tAt s.log m.index ≠ m.lterm then (s, [s.hrd m.frm false (min s.log.length (m.index - 1))])
 else match s.join m.index m.ents with
  | none => (s, [])
  | some u => ({ u with commit := max u.commit (min m.commit (m.index + m.ents.length)) }, [u.hrd m.frm true (m.index + m.ents.length)])
def PP.tlay (s : PP) (m : QM) : PP × List QM :=
 if m.term < s.term then (s, [s.hrd m.frm false s.log.length]) else if s.role = 2 then (s, []) else PP.lay { s.down m.term with lead := m.frm, idle := 0 } m
def PP.setF (s : PP) (f : Int × Int × Int) : PP := { s with fol := s.fol.map fun g => if g.1 = f.1 then f else g }
def PP.theard (s : PP) (m : QM) : PP × List QM :=
 if m.term = s.term then
  match s.fol.find? (fun g => g.1 == m.frm) with
  | none => (s, [])
  | some f => if m.ok then
    (let mm := max f.2.2 (min (m.index : Int) s.log.length)
    ((s.setF (f.1, mm + 1, mm)).adv, if (s.log.length : Int) < mm + 1 then [] else [(s.setF (f.1, mm + 1, mm)).adv.msg (f.1, mm + 1, mm)]))
   else
    (let nx := max (f.2.2 + 1) (min (f.2.1 - 1) (m.index + 1))
    (s.setF (f.1, nx, f.2.2), [(s.setF (f.1, nx, f.2.2)).msg (f.1, nx, f.2.2)]))
 else (s, [])
def PP.rais (s : PP) (t : Int) : PP := if s.term < t then s.down t else s
def PP.ltake (s : PP) (m : QM) : PP × List QM := if m.kind = 3 then (s.rais m.term).tlay m else (s.rais m.term).theard m
end Go.Proofs.YthekbhliokcpcaaGreat
namespace Go.Proofs.YthekbhliokcpcaaGreat
open Go.RowKit Go.Maps Go.Sort
theorem Tryz.one26 : (Tryz.prog.info? 25).map (·.size) = some 1 := by kernel_rfl
theorem Tryz.one27 : (Tryz.prog.info? 26).map (·.size) = some 1 := by kernel_rfl
theorem Tryz.one3 : (Tryz.prog.info? 3).map (·.size) = some 1 := by kernel_rfl
theorem Tryz.one24 : (Tryz.prog.info? 22).map (·.size) = some 1 := by kernel_rfl
theorem Tryz.one28 : (Tryz.prog.info? 27).map (·.size) = some 1 := by kernel_rfl
theorem Tryz.one29 : (Tryz.prog.info? 28).map (·.size) = some 1 := by kernel_rfl
theorem Tryz.one30 : (Tryz.prog.info? 29).map (·.size) = some 1 := by kernel_rfl
theorem Ch.trans1 {b : Nat} {w1 w2 w3 : World} (h : Ch (fun k => k = b) w1 w2) (k : Ch (fun k => k = b) w2 w3) : Ch (fun k => k = b) w1 w3 := h.trans k (fun _ hi => Or.inl hi)
theorem app1_el {α : Type} {E : El α} {ops : Array Oper} {rest : List Oper} {o : Oper} {a : Act} {Q : Exit → Act → World → Prop} {W : World} {base : Nat} {v : Value} {L : List α} (x : α) (L' : List α) (hL : L' = L ++ [x]) (h : E.O base W v L) (hbase : base ≤ W.heap.size) (B c : Nat) (hB : W.heap[B]? = some (.cells (E.enc x).toArray E.e)) (hb : L.length + 1 ≤ 100000000000)
  (hgd : o.guard = none) (s y : Operand) (t : TypeId) (ht : t = E.t) (ho : o.op = .call { callee := .builtin .append, args := #[s, y], argTypes := #[t, t] }) (hs : a.eval s = v) (hy : a.eval y = .slice (some ⟨B, 0, none⟩) 1 c)
  (hK : ∀ g cap w', E.O base w' (.slice (some ⟨g, 0, none⟩) L'.length cap) L' → W.grownBy w' v.ownBlock → (v.ownBlock = some g ∨ g = W.heap.size) → wpList Tryz.prog ops Q rest (a.put o.dst (.slice (some ⟨g, 0, none⟩) L'.length cap)) w') : wpList Tryz.prog ops Q (o :: rest) a W := by
 subst ht
 refine wpList_plain hgd fun K hK' => ?_
 obtain ⟨g, cap, w', hrun, r1, r2, r3⟩ := El.run_app1 (E := E) W base v L h hbase x B c hB hb o.type
 unfold Oper.wp execOp
 simp only [ho, resolve, invoke, builtin, Sem.run_bind, Sem.run_pure, Result.andThen_ok, List.map_toArray, List.map_cons, List.map_nil, hs, hy, hrun]
 have e : L'.length = L.length + 1 := by rw [hL]; simp
 rw [← e, ← hL] at r1
 rw [← e]
 exact hK' _ _ (hK g cap w' r1 r2 r3)
theorem El.O.grown {α β : Type} {E : El α} {F : El β} {base base2 : Nat} {W w' : World} {v v2 : Value} {L : List α} {L2 : List β} (h : E.O base W v L) (h2 : F.O base2 W v2 L2) (hg : W.grownBy w' v2.ownBlock) (ht : E.e ≠ F.e) : E.O base w' v L :=
 h.at (fun k hk => hg.block k (h.lt hk).2 (fun e => by
  obtain ⟨c1, hc1⟩ := h.block hk
  obtain ⟨c2, hc2⟩ := h2.block e.symm
  rw [hc1] at hc2
  injection (Option.some.inj hc2) with _ h3
  exact ht h3))
theorem row_grown {β : Type} {F : El β} {base2 : Nat} {W w' : World} {v2 : Value} {L2 : List β} {b : Nat} {c : Array Value} {t : Nat} (h : W.heap[b]? = some (.cells c t)) (h2 : F.O base2 W v2 L2) (hg : W.grownBy w' v2.ownBlock) (ht : t ≠ F.e) : w'.heap[b]? = some (.cells c t) := by
 rw [hg.block b (lt_of_some h) (fun e => by
  obtain ⟨c2, hc2⟩ := h2.block e.symm
  rw [h] at hc2
  injection (Option.some.inj hc2) with _ h3
  exact ht h3)]
 exact h
end Go.Proofs.YthekbhliokcpcaaGreat
namespace Go.Proofs
open Go.Shelf
def Tryz.laysSf_ren : Go.Shelf.Ren := ⟨fun | 6 => 171 | 15 => 156 | 14 => 208 | 28 => 201 | 29 => 158 | 20 => 229 | 21 => 230 | 22 => 231 | 23 => 232 | 24 => 233 | 25 => 234 | 26 => 235 | 27 => 236 | 46 => 242 | 47 => 224 | 48 => 225 | 49 => 243 | 50 => 244 | 57 => 246 | n => n, fun | 22 => 199 | 24 => 25 | 25 => 201 | 3 => 3 | 39 => 157 | 0 => 0 | 53 => 221 | 55 => 25 | 4 => 4 | 46 => 215 | 45 => 214 | 50 => 107 | 5 => 5 | 9 => 9 | 66 => 243 | 70 => 246 | 76 => 255 | 77 => 256 | n => n, fun | n => n⟩
theorem Tryz.laysSf : Go.Proofs.SlLaysF.n6 Tryz.prog Tryz.laysSf_ren := {
 mixed := by kernel_rfl
 f6 := ⟨Tryz.f171.name, by decide, Tryz.func171.trans (congrArg some (by kernel_rfl))⟩
 f14 := ⟨Tryz.f208.name, by decide, Tryz.func208.trans (congrArg some (by kernel_rfl))⟩
 f15 := Tryz.func156.trans (congrArg some (by kernel_rfl))
 f20 := ⟨Tryz.f229.name, by decide, Tryz.func229.trans (congrArg some (by kernel_rfl))⟩
 f21 := ⟨Tryz.f230.name, by decide, Tryz.func230.trans (congrArg some (by kernel_rfl))⟩
 f22 := ⟨Tryz.f231.name, by decide, Tryz.func231.trans (congrArg some (by kernel_rfl))⟩
 f23 := ⟨Tryz.f232.name, by decide, Tryz.func232.trans (congrArg some (by kernel_rfl))⟩
 f24 := ⟨Tryz.f233.name, by decide, Tryz.func233.trans (congrArg some (by kernel_rfl))⟩
 f25 := ⟨Tryz.f234.name, by decide, Tryz.func234.trans (congrArg some (by kernel_rfl))⟩
 f26 := ⟨Tryz.f235.name, by decide, Tryz.func235.trans (congrArg some (by kernel_rfl))⟩
 f27 := ⟨Tryz.f236.name, by decide, Tryz.func236.trans (congrArg some (by kernel_rfl))⟩
 f28 := Tryz.func201.trans (congrArg some (by kernel_rfl))
 f29 := Tryz.func158.trans (congrArg some (by kernel_rfl))
 f46 := ⟨Tryz.f242.name, by decide, Tryz.func242.trans (congrArg some (by kernel_rfl))⟩
 f47 := Tryz.func224.trans (congrArg some (by kernel_rfl))
 f48 := Tryz.func225.trans (congrArg some (by kernel_rfl))
 f49 := ⟨Tryz.f243.name, by decide, Tryz.func243.trans (congrArg some (by kernel_rfl))⟩
 f50 := ⟨Tryz.f244.name, by decide, Tryz.func244.trans (congrArg some (by kernel_rfl))⟩
 f57 := ⟨Tryz.f246.name, by decide, Tryz.func246.trans (congrArg some (by kernel_rfl))⟩
 t0 := Tryz.underlying0
 a0 := Tryz.isAgg0
 z0 := Tryz.sizeOf0
 v0 := Tryz.zeroValue0
 t3 := Tryz.underlying3
 a3 := Tryz.isAgg3
 z3 := Tryz.sizeOf3
 v3 := Tryz.zeroValue3
 t4 := Tryz.underlying4
 a4 := Tryz.isAgg4
 z4 := Tryz.sizeOf4
 v4 := Tryz.zeroValue4
 t5 := Tryz.underlying5
 a5 := Tryz.isAgg5
 z5 := Tryz.sizeOf5
 v5 := Tryz.zeroValue5
 t9 := Tryz.underlying9
 a9 := Tryz.isAgg9
 z9 := Tryz.sizeOf9
 v9 := Tryz.zeroValue9
 t22 := Tryz.underlying199
 a22 := Tryz.isAgg199
 z22 := Tryz.sizeOf199
 v22 := Tryz.zeroValue199
 a24 := Tryz.isAgg25
 z24 := Tryz.sizeOf25
 t25 := Tryz.underlying201
 a25 := Tryz.isAgg201
 z25 := Tryz.sizeOf201
 v25 := Tryz.zeroValue201
 t39 := Tryz.underlying157
 a39 := Tryz.isAgg157
 z39 := Tryz.sizeOf157
 v39 := Tryz.zeroValue157
 t45 := Tryz.underlying214
 a45 := Tryz.isAgg214
 z45 := Tryz.sizeOf214
 v45 := Tryz.zeroValue214
 t46 := Tryz.underlying215
 a46 := Tryz.isAgg215
 z46 := Tryz.sizeOf215
 v46 := Tryz.zeroValue215
 t50 := Tryz.underlying107
 a50 := Tryz.isAgg107
 z50 := Tryz.sizeOf107
 v50 := Tryz.zeroValue107
 t53 := Tryz.underlying221
 a53 := Tryz.isAgg221
 z53 := Tryz.sizeOf221
 v53 := Tryz.zeroValue221
 t55 := Tryz.underlying25
 a55 := Tryz.isAgg25
 z55 := Tryz.sizeOf25
 v55 := Tryz.zeroValue25
 t66 := Tryz.underlying243
 a66 := Tryz.isAgg243
 z66 := Tryz.sizeOf243
 v66 := Tryz.zeroValue243
 t70 := Tryz.underlying246
 a70 := Tryz.isAgg246
 z70 := Tryz.sizeOf246
 v70 := Tryz.zeroValue246
 t76 := Tryz.underlying255
 a76 := Tryz.isAgg255
 z76 := Tryz.sizeOf255
 v76 := Tryz.zeroValue255
 t77 := Tryz.underlying256
 a77 := Tryz.isAgg256
 z77 := Tryz.sizeOf256
 v77 := Tryz.zeroValue256 }
end Go.Proofs
namespace Go.Proofs.YthekbhliokcpcaaGreat
open Go.RowKit Go.Maps Go.Sort Go.Lib Go.Shelf
theorem insD_perm (x : Int) : ∀ l : List Int, (insD x l).Perm (x :: l)
 | [] => List.Perm.refl _
 | y :: l => by
  unfold insD
  split
  ·exact List.Perm.refl _
  ·exact ((insD_perm x l).cons y).trans (List.Perm.swap x y l)
theorem srtD_perm : ∀ l : List Int, (srtD l).Perm l
 | [] => List.Perm.refl _
 | x :: l => (insD_perm x _).trans ((srtD_perm l).cons x)
theorem srtD_len (l : List Int) : (srtD l).length = l.length := (srtD_perm l).length_eq
theorem insD_ris (x : Int) : ∀ l : List Int, l.Pairwise (fun a b => b ≤ a) → (insD x l).Pairwise (fun a b => b ≤ a)
 | [], _ => by simp [insD]
 | y :: l, h => by
  unfold insD
  obtain ⟨h1, h2⟩ := List.pairwise_cons.1 h
  split
  ·rename_i hy
   exact List.pairwise_cons.2 ⟨fun z hz => by rcases List.mem_cons.1 hz with rfl | hz; exact hy; exact Int.le_trans (h1 z hz) hy, h⟩
  ·rename_i hy
   refine List.pairwise_cons.2 ⟨fun z hz => ?_, insD_ris x l h2⟩
   rcases List.mem_cons.1 ((insD_perm x l).mem_iff.1 hz) with rfl | hz
   ·omega
   ·exact h1 z hz
theorem srtD_ris : ∀ l : List Int, (srtD l).Pairwise (fun a b => b ≤ a)
 | [] => List.Pairwise.nil
 | x :: l => insD_ris x _ (srtD_ris l)
def cmpI (x y : Int) : Int := if x < y then -1 else if y < x then 1 else 0
def cmpD (x y : Int) : Int := cmpI y x
theorem ltD (x y : Int) : ltOf cmpD x y = decide (y < x) := by
 unfold ltOf cmpD cmpI
 split
 ·simp; assumption
 ·split
  ·simp; omega
  ·simp; omega
theorem swoD : SWO (ltOf cmpD) := by
 refine ⟨fun x => by rw [ltD]; simp, fun x y z h1 h2 => ?_, fun x y z h1 h2 => ?_⟩
 ·rw [ltD] at *; simp at *; omega
 ·rw [ltD] at *; simp at *; omega
theorem totD (x y : Int) (h1 : ltOf cmpD x y = false) (h2 : ltOf cmpD y x = false) : x = y := by
 rw [ltD] at h1 h2; simp at h1 h2; omega
theorem ms_srtD (l : List Int) : (l.mergeSort fun x y => !(ltOf cmpD) y x) = srtD l := by
 have e : (fun x y => !(ltOf cmpD) y x) = fun x y => decide (y ≤ x) := by
  funext x y
  rw [ltD]
  by_cases h : y ≤ x
  ·simp [h]
  ·simp [h]; omega
 rw [e]
 have hs : (l.mergeSort fun x y => decide (y ≤ x)).Pairwise (fun a b => decide (b ≤ a) = true) := List.pairwise_mergeSort (fun a b c h1 h2 => by simp at *; omega) (fun a b => by simp; omega) l
 exact List.Perm.eq_of_pairwise (le := fun a b => b ≤ a) (fun a b _ _ h1 h2 => by omega) (pw_to hs (fun h => by simpa using h)) (srtD_ris l) ((List.mergeSort_perm l _).trans (srtD_perm l).symm)
def E26 : El Int := { enc := fun x => [.int .u64 x], k := 1, e := 25, t := 199, bytes := 8, z := .int .u64 0, hk := by decide, len := fun _ => rfl, one := fun x u hu => by simp at hu; rw [hu]; rfl, ht := Tryz.underlying199, hi := by kernel_rfl, hz := rfl, hb := by decide }
def enc1 (x : Int) : Value := .int .u64 x
set_option maxRecDepth 100000 in
theorem nanU (x : Int) (w : World) : Calls Tryz.prog 209 #[.int .u64 x] w fun e w' => e = .returned (.bool false) ∧ w' = w := by
 go_enter Tryz.func209, Tryz.ntmps209
 go_wp2_with fail
 go_ret
 exact ⟨by simp, rfl⟩
set_option maxRecDepth 100000 in
theorem compareU (x y : Int) (w : World) : Calls Tryz.prog 173 #[.int .u64 x, .int .u64 y] w fun e w' => e = .returned (.int .i64 (cmpI x y)) ∧ w' = w := by
 have HN := jd (fun z W => nanU z W)
 unfold cmpI
 by_cases h1 : x < y
 ·rw [if_pos h1]
  go_enter Tryz.func173, Tryz.ntmps173
  go_wp2_with (first | (go_at_call 209; refine ((ju HN) _ _).mono ?_; rintro e w9 ⟨rfl, hw9⟩; rw [hw9]; clear hw9))
  go_ret
  exact ⟨rfl, rfl⟩
 ·rw [if_neg h1]
  by_cases h2 : y < x
  ·rw [if_pos h2]
   go_enter Tryz.func173, Tryz.ntmps173
   go_wp2_with (first | (go_at_call 209; refine ((ju HN) _ _).mono ?_; rintro e w9 ⟨rfl, hw9⟩; rw [hw9]; clear hw9))
   go_ret
   exact ⟨rfl, rfl⟩
  ·rw [if_neg h2]
   go_enter Tryz.func173, Tryz.ntmps173
   go_wp2_with (first | (go_at_call 209; refine ((ju HN) _ _).mono ?_; rintro e w9 ⟨rfl, hw9⟩; rw [hw9]; clear hw9))
   go_ret
   exact ⟨rfl, rfl⟩
set_option maxRecDepth 100000 in
theorem cmpl_U (x y : Int) (w : World) : Calls Tryz.prog 172 #[.int .u64 x, .int .u64 y] w fun e w' => e = .returned (.int .i64 (cmpD x y)) ∧ w' = w := by
 have HN := jd (fun W => compareU y x W)
 unfold cmpD
 generalize cmpI y x = c at *
 go_enter Tryz.func172, Tryz.ntmps172
 go_wp2_with (first | (go_at_call 173; refine ((ju HN) _).mono ?_; rintro e w9 ⟨rfl, hw9⟩; rw [hw9]; clear hw9))
 go_ret
 exact ⟨rfl, rfl⟩
theorem E26_fl (L : List Int) : E26.fl L = L.map enc1 := by
 induction L with
 | nil => rfl
 | cons x L ih => unfold El.fl at *; rw [List.flatMap_cons, ih]; rfl
theorem own26 {W : World} {B g cap : Nat} {L : List Int} (h : E26.O B W (.slice (some ⟨g, 0, none⟩) L.length cap) L) : Holds enc1 W g 0 L.toArray := by
 intro t ht
 have ht' : t < L.length := by simpa using ht
 refine ⟨?_, World.ownsRow.frozenAt h _⟩
 have := h.row t ht' 0 (enc1 L[t]) rfl
 rw [show E26.k = 1 from rfl, Nat.mul_one, Nat.add_zero] at this
 rw [this, getElem!_pos _ t ht]
 simp
theorem own_putU {w : World} {B g n cap q : Nat} {e : TypeId} {xs : List Value} {d : Array Int} (os : Array Obj) (h : w.ownsRow B e 1 (.slice (some ⟨g, 0, none⟩) n cap) n xs) (hG : d.size = n) :
  (grow (putRow enc1 (Sort.ahead w q) g 0 d) os).ownsRow B e 1 (.slice (some ⟨g, 0, none⟩) n cap) n (d.toList.map enc1) := by
 rcases h.2 with ⟨e0, _⟩ | ⟨g', cap', cur, e0, hb, hg, hn, hx, hs, ht⟩
 ·cases e0
 ·injection e0 with e1 _ e3
  injection e1 with e1
  injection e1 with e1
  subst e1; subst e3
  have hlt : g < w.heap.size := (Array.getElem?_eq_some_iff.1 hg).1
  refine ⟨by simp; omega, .inr ⟨g, cap, putCells enc1 0 d cur, rfl, hb, ?_, by omega, hx, by simpa [putCells] using hs, ?_⟩⟩
  ·rw [Sort.heap_grow_old _ _ (by simpa using hlt)]
   simp [putRow, mapBlock, Sort.ahead, Array.getElem?_modify, hg, onCells]
  ·apply List.ext_getElem?
   intro j
   by_cases hj : j < n * 1
   ·have hjc : j < cur.size := by omega
    have hjg : j < d.size := by omega
    rw [List.getElem?_take_of_lt hj, Array.getElem?_toList, List.getElem?_map, Array.getElem?_toList]
    simp only [putCells, Array.getElem?_mapIdx, Array.getElem?_eq_getElem hjc, Option.map_some]
    rw [if_pos (by simp; omega), Array.getElem?_eq_getElem hjg]
    simp [getElem!_pos, hjg]
   ·rw [List.getElem?_eq_none (by simp; omega), List.getElem?_eq_none (by simp; omega)]
theorem ch_putU {w : World} {g q : Nat} {d : Array Int} (os : Array Obj) : Ch (fun i => i = g) w (grow (putRow enc1 (Sort.ahead w q) g 0 d) os) := by
 have hsz : (putRow enc1 (Sort.ahead w q) g 0 d).heap.size = w.heap.size := by simp [putRow, mapBlock, Sort.ahead]
 refine ⟨rfl, rfl, rfl, ?_, fun k hk hn => ?_⟩
 ·rw [Sort.size_grow, hsz]; exact Nat.le_add_right _ _
 ·rw [Sort.heap_grow_old _ _ (by rw [hsz]; omega)]
  simp [putRow, mapBlock, Sort.ahead, Array.getElem?_modify, show g ≠ k from fun e => hn e.symm]
theorem sort_U (B g cap : Nat) (l : List Int) (w : World) (h : E26.O B w (.slice (some ⟨g, 0, none⟩) l.length cap) l) (hl : l.length ≤ 1000000) :
  Calls Tryz.prog 171 #[.slice (some ⟨g, 0, none⟩) l.length cap, .func (.func 172) #[] #[]] w fun e w' => e = .returned (.tuple #[]) ∧ E26.O B w' (.slice (some ⟨g, 0, none⟩) l.length cap) (srtD l) ∧ Ch (fun i => i = g) w w' := by
 have eg : ∀ args w, (callFunc 172 args).run Tryz.prog w = .ok (.enter 172 args) w := enters_of Tryz.func172 (by kernel_rfl) rfl
 have hs := Any.slices_SortFunc_total Tryz.laysSf enc1 (fun _ => rfl) cmpD swoD 172 #[] g 0 cap l.toArray w eg (fun m os dk _ x y => (cmpl_U x y _).mono (fun _ _ ⟨he, hw⟩ => ⟨he, 0, #[], by rw [hw, grow_empty]; rfl⟩)) (own26 h) (h.lt rfl).2 (by simp; omega) totD
 refine Calls.mono (show Calls Tryz.prog 171 #[.slice (some ⟨g, 0, none⟩) l.length cap, .func (.func 172) #[] #[]] w fun e w' => e = .returned (.tuple #[]) ∧ ∃ n os, w' = grow (putRow enc1 (Sort.ahead w n) g 0 (l.mergeSort fun x y => !(ltOf cmpD) y x).toArray) os from hs) ?_
 rintro e w' ⟨he, n, os, rfl⟩
 rw [ms_srtD]
 refine ⟨he, ?_, ch_putU os⟩
 have := own_putU (q := n) (d := (srtD l).toArray) os h (by simp [srtD_len])
 unfold El.O
 rw [srtD_len, E26_fl]
 exact this
end Go.Proofs.YthekbhliokcpcaaGreat
namespace Go.Proofs.YthekbhliokcpcaaGreat
open Go.RowKit Go.Maps Go.Sort
theorem E26_cell {base : Nat} {W : World} {g m cap : Nat} {L : List Int} (h : E26.O base W (.slice (some ⟨g, 0, none⟩) m cap) L) (hm : m = L.length) (j : Nat) (hj : j < L.length) : W.cell? ⟨g, j, none⟩ = some (.int .u64 (L.getD j 0)) := by
 subst hm
 have := h.row j hj 0 _ rfl
 rw [show E26.k = 1 from rfl, Nat.mul_one, Nat.add_zero, Nat.zero_add] at this
 rw [this]
 simp [List.getD, List.getElem?_eq_getElem hj]
end Go.Proofs.YthekbhliokcpcaaGreat
