/- One call of both: Part, and how both stand. -/
import Derived.Test.YtbcgikkdhfbphaaDog
import Derived.Test.YtbcgikkdhfbphaaDof
namespace Go.Proofs.Ytbcgikkdhfbphaa
open Go.RowKit Go.Maps
/-- Rows of numbers. -/
def E3 : El Int := { enc := fun x => [.int .i64 x], k := 1, e := 3, t := 32, bytes := 8, z := .int .i64 0, hk := by decide, len := fun _ => rfl, one := fun x u hu => by simp at hu; rw [hu]; rfl, ht := Try.underlying32, hi := by kernel_rfl, hz := rfl, hb := by decide }
theorem RI.of {W : World} {base : Nat} {ad : Option Addr} {cap : Nat} {l : List Int} (h : E3.O base W (.slice ad l.length cap) l) : RI W (.slice ad l.length cap) l := by
  obtain ⟨a, c, g, e, h1, h2, h3⟩ := h.shape
  cases e
  exact ⟨ad, cap, g, 0, rfl, h1, fun j hj => by have := h2 j hj 0 _ rfl; simpa [E3] using this⟩
/-- append of a row to nothing, as long as memory is. -/
theorem E3.run_app (W : World) (M : List Int) (a : Option Addr) (g off cap : Nat) (ha : M.length ≠ 0 → a = some ⟨g, off, none⟩) (hM : E3.R W g off M) (hb : M.length ≤ 17592186044416) (ty : TypeId) :
    ∃ v' w', (Builtin.append_ #[32, 32] ty #[.slice none 0 0, .slice a M.length cap]).run Try.prog W = .ok v' w' ∧ E3.O W.heap.size w' v' M ∧ W.grownBy w' none := by
  by_cases h0 : M.length = 0
  · obtain ⟨v', w', h1, h2, h3, _⟩ := El.run_app (E := E3) W W.heap.size (.slice none 0 0) [] M (El.O.nil _ _) (Nat.le_refl _) a g off cap ha hM (by simp; omega) ty
    exact ⟨v', w', h1, by simpa using h2, h3⟩
  · obtain ⟨i0, hi, hz0, hz1, hz2⟩ := E3.info
    obtain rfl := ha h0
    obtain ⟨g', cap', w', hr, q1, q2, q3, _⟩ := run_append_lies (P := Try.prog) W E3.t ty W.heap.size E3.e i0 E3.z E3.k E3.bytes E3.ht hi hz0 hz1 hz2 E3.hz E3.hk (.slice none 0 0) 0 (E3.fl []) (El.O.nil (E := E3) W.heap.size W) ⟨g, off, none⟩ M.length cap (E3.fl M) (E3.fl_len M) (fun t u ht => by rw [Addr.add_lit]; exact hM.flat t u ht) (E3.fl_cells M) (by omega) (by unfold maxLen; omega) (by
      show (0 + M.length) * 8 ≤ _
      omega) (Nat.le_refl _) _ rfl
    refine ⟨_, w', hr, ?_, q2⟩
    rw [Nat.zero_add] at q1 ⊢
    exact q1
/-- append to nothing, as a step of a region that draws. -/
theorem step_app32 {ops : Array Oper} {o : Oper} {a : Act} {w : World} {K : Act → World → Prop} {Q : Exit → Act → World → Prop} {E : Prop} (hgd : o.guard = none) (x y : Operand)
    (ho : o.op = .call { callee := .builtin .append, args := #[x, y], argTypes := #[32, 32] }) {v : Value} {l : List Int} (hv : RI w v l) (hl : l.length ≤ 17592186044416) (hx : a.eval x = .slice none 0 0) (hy : a.eval y = v)
    (h : ∀ ad cap w', E3.O w.heap.size w' (.slice ad l.length cap) l → Bel w w' → K (a.put o.dst (.slice ad l.length cap)) w') :
    if Region.wanted o (yielded ops a.tmps) = true then Oper.wp Try.prog o a w K Q else E := by
  have hw : Region.wanted o (yielded ops a.tmps) = true := by simp [Region.wanted, hgd]
  rw [if_pos hw]
  obtain ⟨av, cap, g, off, rfl, ha, hc⟩ := hv
  obtain ⟨v', w', hrun, r1, r2⟩ := E3.run_app w l av g off cap ha (fun j hj c u hu => by
    have hc0 : c = 0 := by
      have := (List.getElem?_eq_some_iff.1 hu).1
      simpa [E3] using this
    subst hc0
    have hu' : some (Value.int .i64 l[j]) = some u := hu
    cases hu'
    simp [E3, hc j hj]) hl o.type
  obtain ⟨a', c', g', hv', _, _, _⟩ := r1.shape
  subst hv'
  have hrun' : (Builtin.append_ #[32, 32] o.type #[.slice none 0 0, .slice av l.length cap]).run Try.prog w = .ok (.slice a' l.length c') w' := hrun
  unfold Oper.wp execOp
  simp only [ho, resolve, invoke, builtin, Sem.run_bind, Sem.run_pure, Result.andThen_ok, List.map_toArray, List.map_cons, List.map_nil, hx, hy, hrun']
  exact h _ _ _ r1 (bel_grown (Bel.refl w) r2 (fun z hz => by cases hz))
theorem tb_part {s : PN} (h : Tb s) (l : List Int) : Tb (s.partS l) := by
  unfold PN.partS
  split
  · exact h
  · exact h
theorem RI.bel {w w' : World} {v : Value} {l : List Int} (h : RI w v l) (hb : Bel w w') : RI w' v l := by
  obtain ⟨a, cap, g, off, h1, h2, h3⟩ := h
  exact ⟨a, cap, g, off, h1, h2, fun j hj => hb.cell (h3 j hj)⟩
theorem RI.ch {w w' : World} {Z : Nat → Prop} {v : Value} {l : List Int} (h : RI w v l) (hc : Ch Z w w') (hd : l.length ≠ 0 → ∀ k, v.ownBlock = some k → ¬ Z k) : RI w' v l := by
  obtain ⟨a, cap, g, off, rfl, h2, h3⟩ := h
  exact ⟨a, cap, g, off, rfl, h2, fun j hj => hc.cell (h3 j hj) (hd (by omega) g (by rw [h2 (by omega)]; rfl))⟩
set_option maxRecDepth 100000 in
set_option maxHeartbeats 4000000 in
theorem does_part {C : Nat} {W : World} {p q : Nat} {s : PN} {Z : Nat → Prop} (h : Pr C W p q s s Z) (tb : Tb s) (a b n : Int) (t : ByteArray) (sv : Option Addr) (sl sc : Nat) {l : List Int} (hri : RI W (.slice sv sl sc) l) (hl : l.length ≤ 17592186044416) (hd : l.length ≠ 0 → ∀ k, (Value.slice sv sl sc).ownBlock = some k → ¬ Z k ∧ k < W.heap.size) : Calls Try.prog 11 #[.pointer (some ⟨p, 0, none⟩), .pointer (some ⟨q, 0, none⟩), .agg #[.int .i64 5, .int .i64 a, .int .i64 b, .int .i64 n, .string t, .slice sv sl sc]] W fun e w' => e = .returned (.bool true) ∧ DoR C W p q Z w' := by
  have hbel : Bel W (W.alloc (.cells #[.int .i64 5, .int .i64 a, .int .i64 b, .int .i64 n, .string t, .slice sv sl sc] 34)) := (Bel.refl W).alloc _
  have hnew := at_new W (.cells #[.int .i64 5, .int .i64 a, .int .i64 b, .int .i64 n, .string t, .slice sv sl sc] 34)
  have HZ := hide h.lt
  generalize hW0 : W.alloc (.cells #[.int .i64 5, .int .i64 a, .int .i64 b, .int .i64 n, .string t, .slice sv sl sc] 34) = W0 at *
  have hbd := hbel.trans (Bel.refl W0).drew
  have hpr := h.bel hbd
  have hri0 : RI W0.drew (.slice sv sl sc) l := hri.bel hbd
  have d0 : W0.cell? ⟨W.heap.size, 0, none⟩ = some (.int .i64 5) := cell_of hnew
  have d5 : W0.cell? ⟨W.heap.size, 5, none⟩ = some (.slice sv sl sc) := cell_of hnew
  have HK1 : Hid (∀ w1, Bel W0.drew w1 → w1.cell? ⟨W.heap.size, 5, none⟩ = some (.slice sv sl sc)) := hide (fun w1 hb => hb.cell (show W0.drew.cell? _ = _ from d5))
  have HKK : Hid (∀ w1 s1 t1, Ap2 C W0.drew p q Z s1 t1 w1 → w1.cell? ⟨W.heap.size, 5, none⟩ = some (.slice sv sl sc)) := hide (fun w1 s1 t1 ha => by
    have hr := ha.row (unhide HZ) (Nat.le_refl _) (show W0.drew.heap[W.heap.size]? = _ from hnew)
    exact cell_of hr)
  have HP : Hid (∀ w1 ad cap, E3.O W0.drew.heap.size w1 (.slice ad l.length cap) l → Bel W0.drew w1 → Calls Try.prog 21 #[.pointer (some ⟨p, 0, none⟩), .slice ad l.length cap] w1 fun e w' => e = .returned (.int .i64 (flt s l)) ∧ Ap2 C W0.drew p q Z (s.partS l) s w') := hide (fun w1 ad cap ho hb => by
    have hlt := hpr.lt
    exact ((hpr.bel hb).prog (fun M hM hMZ => part_any hM (RI.of ho) (fun _ k hk hm => by have := (ho.lt hk).1; have := hlt k (hMZ k hm); omega) (by omega))).mono (fun e w' ⟨a1, a2⟩ => ⟨a1, a2.from hb⟩))
  have HD : Hid (∀ w2, Ap2 C W0.drew p q Z (s.partS l) s w2 → Calls Try.prog 34 #[.pointer (some ⟨q, 0, none⟩), .slice sv sl sc] w2 fun e w' => e = .returned (.int .i64 (flt s l)) ∧ Ap2 C W0.drew p q Z (s.partS l) (s.partS l) w') := hide (fun w2 ha => by
    have hri2 : RI w2 (.slice sv sl sc) l := by
      obtain ⟨Z', _, _, hc⟩ := ha
      exact hri0.ch hc (fun h0 k hk => (hd h0 k hk).1)
    exact ha.then (fun Z' hz hz2 => hz.doc (fun K hk hK => partD hk hri2 (fun h0 k hkk hm => by
      obtain ⟨g1, g2⟩ := hd h0 k hkk
      rcases hz2 k (hK k hm) with h' | h'
      · exact g1 h'
      · have := hbd.size; omega) (by omega))))
  have HFN : Hid (∀ w1, Ap2 C W0.drew p q Z (s.partS l) (s.partS l) w1 → DoR C W p q Z w1) := hide (fun w1 ha => ⟨_, tb_part tb l, (ha.from hbd).mono (Nat.le_succ _)⟩)
  have HRI := hide hri0
  have HLL := hide hl
  generalize hBB : W.heap.size = B at *
  clear h hbel hnew hpr tb hri hd hbd hri0 hl
  generalize flt s l = rv at *
  generalize s.partS l = s1 at *
  go_enter Try.func11, Try.ntmps11
  go_wp2_with fail
  go_region_held3 (fun W' => W'.cell? ⟨B, 5, none⟩ = some (.slice sv sl sc)) (first | exact (unhide HKK) _ _ _ hA2 | exact (unhide HKK) _ _ _ hA1 | exact (unhide HK1) _ hb1 | exact d5) ((first
    | (refine step_app32 rfl _ _ rfl (unhide HRI) (unhide HLL) rfl rfl ?_; intro ad1 cap1 w1 ho1 hb1)
    | (go_at_call 21; refine ((unhide HP) _ _ _ ho1 hb1).mono ?_; rintro e w2 ⟨rfl, hA1⟩)
    | (go_at_call 34; refine ((unhide HD) _ hA1).mono ?_; rintro e w3 ⟨rfl, hA2⟩)))
  all_goals
    have HF := hide ((unhide HFN) _ hA2)
    go_wp2_with fail
    go_ret
    exact ⟨by simp, unhide HF⟩
set_option maxRecDepth 100000 in
theorem does_else {C : Nat} {W : World} {p q : Nat} {s : PN} {Z : Nat → Prop} (h : Pr C W p q s s Z) (hC : C ≤ 800000) (tb : Tb s) (op a b n : Int) (hop : ¬ (0 ≤ op ∧ op ≤ 7)) (t : ByteArray) (sv : Option Addr) (sl sc : Nat) : Calls Try.prog 11 #[.pointer (some ⟨p, 0, none⟩), .pointer (some ⟨q, 0, none⟩), .agg #[.int .i64 op, .int .i64 a, .int .i64 b, .int .i64 n, .string t, .slice sv sl sc]] W fun e w' => e = .returned (.bool true) ∧ DoR C W p q Z w' := by
  have hbel : Bel W (W.alloc (.cells #[.int .i64 op, .int .i64 a, .int .i64 b, .int .i64 n, .string t, .slice sv sl sc] 34)) := (Bel.refl W).alloc _
  have HS := hide (by obtain ⟨M, K, h1, h2, _⟩ := h.bel hbel; exact stands_any h1 (by omega) h2)
  have HF : Hid (∀ w', Bel (W.alloc (.cells #[.int .i64 op, .int .i64 a, .int .i64 b, .int .i64 n, .string t, .slice sv sl sc] 34)) w' → DoR C W p q Z w') := hide (fun w' hb => ⟨s, tb, (h.same (hbel.trans hb)).mono (Nat.le_succ _)⟩)
  have o0 : (op == 0) = false := by simp; omega
  have o1 : (op == 1) = false := by simp; omega
  have o2 : (op == 2) = false := by simp; omega
  have o3 : (op == 3) = false := by simp; omega
  have o4 : (op == 4) = false := by simp; omega
  have o5 : (op == 5) = false := by simp; omega
  have o6 : (op == 6) = false := by simp; omega
  have o7 : (op == 7) = false := by simp; omega
  clear h hbel tb hop
  go_enter Try.func11, Try.ntmps11
  go_wp2_with (first
    | (go_at_call 14; refine (unhide HS).mono ?_; rintro e w9 ⟨rfl, hb9⟩; have HB9 := hide hb9; clear hb9))
  go_ret
  exact ⟨rfl, (unhide HF) _ (unhide HB9)⟩
end Go.Proofs.Ytbcgikkdhfbphaa
