/- A region that draws its order, of operations that only make memory: one law by what each yields. -/
import Derived.Test.YtgofdkheffoilaaGreatBox
import Derived.OrdersHeld
namespace Go.Proofs.YtgofdkheffoilaaGreat
open Go.RowKit Go.Maps
section
variable {P : Program} {ops : Array Oper} {Q : Exit → Act → World → Prop} {md : Region.Mode}
/-- How many have not come up. -/
def left (listed : Array Bool) : Nat := listed.toList.count false
theorem left_set : ∀ (l : List Bool) (i : Nat), l[i]? = some false → (l.set i true).count false + 1 = l.count false
  | [], i, h => by simp at h
  | b :: l, 0, h => by
    simp at h
    subst h
    simp
  | b :: l, i + 1, h => by
    have := left_set l i (by simpa using h)
    cases b <;> simp <;> omega
/-- Whatever order is picked: what holds of what has come up, the temporaries and the world, and is kept by each that may come up. -/
theorem wpAny_inv (I : Array Bool → Act → World → Prop) (hstep : ∀ (listed : Array Bool) (a : Act) (w : World) (i : Nat), I listed a w → i ∈ Region.ready md ops listed → wpOp P ops Q i (I (listed.setIfInBounds i true)) a w) (hend : ∀ (listed : Array Bool) (a : Act) (w : World), I listed a w → Region.ready md ops listed = [] → Q .normal a w) :
    ∀ (fuel : Nat) (listed : Array Bool) (a : Act) (w : World), left listed ≤ fuel → I listed a w → wpAny P md ops Q fuel listed a w
  | 0, listed, a, w, hf, h => by
    have h0 : Region.ready md ops listed = [] := by
      rw [List.eq_nil_iff_forall_not_mem]
      intro i hi
      have hu := (mem_ready.1 hi).1
      have hl : listed.toList[i]? = some false := by
        cases hq : listed[i]? with
        | none => rw [Array.getD_eq_getD_getElem?, hq] at hu; cases hu
        | some b => rw [Array.getD_eq_getD_getElem?, hq] at hu; rw [Array.getElem?_toList, hq]; exact congrArg some hu
      have := left_set _ _ hl
      unfold left at hf
      omega
    exact ⟨h0, hend _ _ _ h h0⟩
  | fuel + 1, listed, a, w, hf, h => by
    refine ⟨fun h0 => hend _ _ _ h h0, fun i hi => wpOp_mono (fun a' w' h' => wpAny_inv I hstep hend fuel _ a' w' ?_ h') (hstep listed a w i h hi)⟩
    have hu := (mem_ready.1 hi).1
    have hl : listed.toList[i]? = some false := by
      cases hq : listed[i]? with
      | none => rw [Array.getD_eq_getD_getElem?, hq] at hu; cases hu
      | some b => rw [Array.getD_eq_getD_getElem?, hq] at hu; rw [Array.getElem?_toList, hq]; exact congrArg some hu
    have := left_set _ _ hl
    unfold left at *
    rw [Array.toList_setIfInBounds]
    omega
/-- An operation yields a value, by itself or by a call. -/
def St (P : Program) (a : Act) (o : Oper) (w : World) (K : Value → World → Prop) : Prop :=
  (∃ v w', (execOp a.eval o).run P w = .ok (.value v) w' ∧ K v w') ∨ (∃ f args, ∃ R : Ending → World → Prop, (execOp a.eval o).run P w = .ok (.enter f args) w ∧ Calls P f args w R ∧ ∀ e w', R e w' → ∃ v, e = .returned v ∧ K v w')
theorem St.op {a : Act} {o : Oper} {w : World} {i : Nat} {K : Value → World → Prop} {K' : Act → World → Prop} (h : St P a o w K) (hi : ops[i]? = some o) (hg : o.guard = none) (hK : ∀ v w', K v w' → K' (a.put o.dst v) w') : wpOp P ops Q i K' a w := by
  unfold wpOp
  have hw : Region.wanted o (yielded ops a.tmps) = true := by simp [Region.wanted, hg]
  rcases h with ⟨v, w', hr, hk⟩ | ⟨f, args, R, hr, hc, hk⟩
  · simp only [hi, hw, if_true, Oper.wp, hr, Oper.upon_value]
    exact Or.inl (hK v w' hk)
  · simp only [hi, hw, if_true, Oper.wp, hr, Oper.upon_enter]
    refine Or.inl (hc.mono ?_)
    intro e w' he
    obtain ⟨v, rfl, h2⟩ := hk e w' he
    exact hK v w' h2
/-- What holds on the way: the slots of what has come up hold what they should; all others are as they were. -/
structure Mn (V : Nat → Value → World → Prop) (D : List Nat) (a0 : Act) (w0 : World) (listed : Array Bool) (a : Act) (w : World) : Prop where
  bel : Bel w0 w
  sz : a.tmps.size = a0.tmps.size
  df : a.defers = a0.defers
  same : ∀ k, k ∉ D → a.tmps[k]? = a0.tmps[k]?
  val : ∀ i, listed.getD i false = true → V i (a.tmps.getD (D.getD i 0) undef) w
theorem rg_mono {id : Nat} {a0 : Act} {w0 : World} (V : Nat → Value → World → Prop) (D : List Nat) (hm : P.follows .mixedOrders = true) (hV : ∀ i v w w', V i v w → Bel w w' → V i v w') (hN : D.Nodup) (hlen : D.length = ops.size) (hD : ∀ i o, ops[i]? = some o → o.guard = none ∧ o.dst = some (D.getD i 0)) (hs : ∀ d ∈ D, d < a0.tmps.size)
    (hord : ∀ i o, ops[i]? = some o → ∀ e ∈ o.after, Region.binds .any e = true → e.on < i)
    (hstep : ∀ i o, ops[i]? = some o → ∀ a w, Bel w0 w → (∀ k, k ∉ D → a.tmps[k]? = a0.tmps[k]?) → (∀ e ∈ o.after, Region.binds .any e = true → V e.on (a.tmps.getD (D.getD e.on 0) undef) w) → St P a o w (fun v w' => Bel w w' ∧ V i v w'))
    (hQ : ∀ a w, Bel w0 w → a.tmps.size = a0.tmps.size → a.defers = a0.defers → (∀ k, k ∉ D → a.tmps[k]? = a0.tmps[k]?) → (∀ i, i < ops.size → V i (a.tmps.getD (D.getD i 0) undef) w) → Q .normal a w) : (Code.region id ops true).wp P Q a0 w0 := by
  refine wp_region_any hm ?_
  refine wpAny_inv (fun l a w => l.size = ops.size ∧ Mn V D a0 w0 l a w) ?_ ?_ _ _ _ _ (by simp [left]) ?_
  · rintro listed a w i ⟨hl, h⟩ hi
    obtain ⟨hu, o, ho, ha⟩ := mem_ready.1 hi
    have hil : i < ops.size := (Array.getElem?_eq_some_iff.1 ho).1
    have hdi : D.getD i 0 = D[i]'(by omega) := by rw [List.getD_eq_getElem?_getD, List.getElem?_eq_getElem (by omega)]; rfl
    refine (hstep i o ho a w h.bel h.same (fun e he hb => h.val e.on (ha e he hb))).op ho (hD i o ho).1 (fun v w' hk => ⟨by rw [Array.size_setIfInBounds]; exact hl, ?_⟩)
    have hdm : D.getD i 0 ∈ D := by rw [hdi]; exact List.getElem_mem _
    have hds : D.getD i 0 < a.tmps.size := by rw [h.sz]; exact hs _ hdm
    rw [(hD i o ho).2]
    refine ⟨h.bel.trans hk.1, by simp [Act.put, h.sz], h.df, fun k hkn => ?_, fun j hj => ?_⟩
    · have hne : D.getD i 0 ≠ k := fun e => hkn (e ▸ hdm)
      simp only [Act.put]
      rw [Array.getElem?_setIfInBounds_ne hne]
      exact h.same k hkn
    · by_cases hji : j = i
      · subst hji
        have : (a.put (some (D.getD j 0)) v).tmps.getD (D.getD j 0) undef = v := by
          simp only [Act.put]
          rw [Array.getD_eq_getD_getElem?, Array.getElem?_setIfInBounds_self_of_lt hds]
          rfl
        rw [this]
        exact hk.2
      · have hj' : listed.getD j false = true := by
          rw [Array.getD_eq_getD_getElem?, Array.getElem?_setIfInBounds_ne (fun e => hji e.symm), ← Array.getD_eq_getD_getElem?] at hj
          exact hj
        have hjl : j < listed.size := by
          rcases Nat.lt_or_ge j listed.size with h' | h'
          · exact h'
          · rw [Array.getD_eq_getD_getElem?, Array.getElem?_eq_none h'] at hj'; cases hj'
        have hdj : D.getD j 0 = D[j]'(by omega) := by rw [List.getD_eq_getElem?_getD, List.getElem?_eq_getElem (by omega)]; rfl
        have hne : D.getD i 0 ≠ D.getD j 0 := by
          rw [hdi, hdj]
          intro e
          have hp := List.pairwise_iff_getElem.1 hN
          rcases Nat.lt_or_gt_of_ne hji with h' | h'
          · exact hp j i (by omega) (by omega) h' e.symm
          · exact hp i j (by omega) (by omega) h' e
        have : (a.put (some (D.getD i 0)) v).tmps.getD (D.getD j 0) undef = a.tmps.getD (D.getD j 0) undef := by
          simp only [Act.put]
          rw [Array.getD_eq_getD_getElem?, Array.getElem?_setIfInBounds_ne hne, ← Array.getD_eq_getD_getElem?]
        rw [this]
        exact hV _ _ _ _ (h.val j hj') hk.1
  · rintro listed a w ⟨hl, h⟩ h0
    have hall : ∀ i, i < ops.size → listed.getD i false = true := by
      intro i
      induction i using Nat.strongRecOn with
      | _ i ih =>
        intro hi
        cases hq : listed.getD i false with
        | true => rfl
        | false =>
          exfalso
          have hq2 : listed.getD i true = false := by
            rw [Array.getD_eq_getD_getElem?, Array.getElem?_eq_getElem (by omega)] at hq ⊢
            exact hq
          have : i ∈ Region.ready .any ops listed := mem_ready.2 ⟨hq2, ops[i], Array.getElem?_eq_getElem hi, fun e he hb => ih e.on (hord i _ (Array.getElem?_eq_getElem hi) e he hb) (Nat.lt_trans (hord i _ (Array.getElem?_eq_getElem hi) e he hb) hi)⟩
          rw [h0] at this
          cases this
    exact hQ a w h.bel h.sz h.df h.same (fun i hi => h.val i (hall i hi))
  · refine ⟨by simp, (Bel.refl w0).drew, rfl, rfl, fun _ _ => rfl, fun i hi => ?_⟩
    rw [Array.getD_eq_getD_getElem?, Array.getElem?_replicate] at hi
    split at hi <;> cases hi
/-- The same, with what is asked of the operations as checks. -/
def chkD (ops : Array Oper) (D : List Nat) : Bool := decide (D.length = ops.size) && ((ops.toList.zipIdx).all fun p => decide (p.1.guard = none) && decide (p.1.dst = some (D.getD p.2 0)))
def chkO (ops : Array Oper) : Bool := (ops.toList.zipIdx).all fun p => p.1.after.toList.all fun e => !Region.binds .any e || decide (e.on < p.2)
theorem all_at {f : Oper × Nat → Bool} (h : (ops.toList.zipIdx).all f = true) {i : Nat} {o : Oper} (ho : ops[i]? = some o) : f (o, i) = true := by
  rw [List.all_eq_true] at h
  refine h (o, i) ?_
  rw [List.mem_zipIdx_iff_getElem?]
  rw [← Array.getElem?_toList] at ho
  exact ho
theorem rg_mn {id : Nat} {a0 : Act} {w0 : World} (V : Nat → Value → World → Prop) (D : List Nat) (hm : P.follows .mixedOrders = true) (hV : ∀ i v w w', V i v w → Bel w w' → V i v w') (hN : D.Nodup) (hD : chkD ops D = true) (hord : chkO ops = true) (hs : ∀ d ∈ D, d < a0.tmps.size)
    (hstep : ∀ i o, ops[i]? = some o → ∀ a w, Bel w0 w → (∀ k, k ∉ D → a.tmps[k]? = a0.tmps[k]?) → (∀ e ∈ o.after, Region.binds .any e = true → V e.on (a.tmps.getD (D.getD e.on 0) undef) w) → St P a o w (fun v w' => Bel w w' ∧ V i v w'))
    (hQ : ∀ a w, Bel w0 w → a.tmps.size = a0.tmps.size → a.defers = a0.defers → (∀ k, k ∉ D → a.tmps[k]? = a0.tmps[k]?) → (∀ i, i < ops.size → V i (a.tmps.getD (D.getD i 0) undef) w) → Q .normal a w) : (Code.region id ops true).wp P Q a0 w0 := by
  unfold chkD at hD
  rw [Bool.and_eq_true] at hD
  refine rg_mono V D hm hV hN (of_decide_eq_true hD.1) (fun i o ho => ?_) hs (fun i o ho e he hb => ?_) hstep hQ
  · have := all_at hD.2 ho
    rw [Bool.and_eq_true] at this
    exact ⟨of_decide_eq_true this.1, of_decide_eq_true this.2⟩
  · have := all_at hord ho
    rw [List.all_eq_true] at this
    have := this e (by simpa using he)
    rw [hb] at this
    simpa using this
end
end Go.Proofs.YtgofdkheffoilaaGreat
