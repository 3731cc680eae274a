/- The keys of the links' map, told by the library's iterator. -/
import Derived.Test.YtbcgikkdhfbphaaRng
import Derived.Sort.MapsRangeIn
namespace Go.Proofs.Ytbcgikkdhfbphaa
open Go.RowKit Go.Shelf Go.Maps
theorem ranges_at {w w' : World} {k b r n : Nat} {D : DataW Value} {left : Lit → Bool} {cnt : Nat} (h : w.ranges Try.prog k HV b r n D left cnt) (hb : w'.heap[b]? = w.heap[b]?) (hr : w'.heap[r]? = w.heap[r]?) : w'.ranges Try.prog k HV b r n D left cnt := by
  obtain ⟨es, clock, since, seen, c0, h1, h2, h3, h4, h5, h6⟩ := h
  exact ⟨es, clock, since, seen, c0, hb.trans h1, h2, h3, h4, hr.trans h5, h6⟩
/-- What has come so far. -/
def Cl {α : Type} (k : TypeId) (mk : α → Value) (D : DataW Value) (left : Lit → Bool) (ss : List α) : Prop := ss.Nodup ∧ (∀ x ∈ ss, KeyOK k (mk x)) ∧ ∀ x l, keyOf Try.prog k (mk x) = some l → (x ∈ ss ↔ Maps.has D l = true ∧ left l = false)
section
variable {α : Type} {k : TypeId} {mk : α → Value} {D : DataW Value} {left : Lit → Bool} {ss : List α}
theorem Cl.start : Cl k mk D (Maps.has D) ([] : List α) := ⟨List.nodup_nil, fun x hx => by simp at hx, fun x l _ => by
  constructor
  · intro h; simp at h
  · rintro ⟨h1, h2⟩; rw [h1] at h2; cases h2⟩
theorem Cl.step (h : Cl k mk D left ss) (K : Keyed Try.prog k) (hmk : ∀ x y, mk x = mk y → x = y) {x : α} {kl : Lit} (hx : keyOf Try.prog k (mk x) = some kl) (hl : left kl = true) {y : DataW Value} (hat : ∀ zd, D.atKey kl zd = y) : Cl k mk D (fun z => left z && !z.sameKey kl) (ss ++ [x]) := by
  obtain ⟨h1, h3, h2⟩ := h
  have hno : x ∉ ss := fun hm => by
    have := ((h2 x kl hx).1 hm).2
    rw [hl] at this; cases this
  refine ⟨?_, fun y hy => ?_, fun y ly hy => ?_⟩
  · rw [List.nodup_append]
    refine ⟨h1, by simp, fun a ha b hb e => ?_⟩
    simp at hb
    rw [hb] at e
    rw [e] at ha
    exact hno ha
  · rcases List.mem_append.1 hy with hy | hy
    · exact h3 y hy
    · simp at hy; rw [hy]; exact ⟨kl, hx⟩
  · have hk := K.key hx
    rw [List.mem_append, List.mem_singleton]
    constructor
    · rintro (hm | rfl)
      · obtain ⟨q1, q2⟩ := (h2 y ly hy).1 hm
        exact ⟨q1, by simp [q2]⟩
      · rw [hx] at hy
        cases hy
        exact ⟨has_true_of_atKey hat, by show (left kl && !kl.sameKey kl) = false; rw [WideAt.sameKey_self hk]; simp⟩
    · rintro ⟨q1, q2⟩
      by_cases e : ly = kl
      · right
        exact hmk _ _ (K.inj hy (by rw [e]; exact hx))
      · left
        have q3 : (left ly && !ly.sameKey kl) = false := q2
        rw [sameKey_ne e] at q3
        exact (h2 y ly hy).2 ⟨q1, by simpa using q3⟩
end
theorem mapIter_ch {w w' : World} {r : Nat} (hg : w.grownBy w' (some r)) : Ch (fun i => i = r) w w' := ⟨hg.os, hg.tape, hg.output, hg.size, fun k hk hn => hg.block k hk (fun e => hn (by cases e; rfl))⟩
set_option maxRecDepth 100000 in
set_option maxHeartbeats 2000000 in
theorem keys_it {w : World} {bl n Bm : Nat} {f : Int × Int → Option Value} (hm : Mg 86 lk w bl n f) (hn : n ≤ 900001) (hB : w.heap[Bm]? = some (.cells #[.map (some bl)] 68)) : It w 4 900001 56 #[.pointer (some ⟨Bm, 0, none⟩)] (fun ss => (ss.Nodup ∧ ∀ x, x ∈ ss ↔ (f x).isSome = true) ∧ ss.length ≤ n) := by
  intro l J W hbW hY hJ0
  obtain ⟨⟨D, hown0, hD⟩, hfk⟩ := hm
  have hown : W.ownsMap Try.prog 86 HV bl n D := own_at hown0 (hbW.block bl hown0.lt)
  have hsz : Maps.size D ≤ n := hown.size_le
  have cB : W.cell? ⟨Bm, 0, none⟩ = some (.map (some bl)) := cell_of (hbW.row hB)
  have HFK := hide hfk
  have HD := hide hD
  have hbl0 := hown0.lt
  have HY := hide hY
  have HJ0 := hide hJ0
  clear hfk hD hY hJ0 hB
  refine callsIn_of_wp Try.func56 rfl trivial ?_
  simp only [Try.ntmps56, List.size_toArray, List.length_cons, List.length_nil, Nat.reduceAdd, Nat.reduceSub, Array.replicate_succ, Array.replicate_zero, List.push_toArray, List.append_toArray, List.nil_append, List.cons_append]
  gi_wp2_with (first
    | (gi_at_range; refine wpListIn_range_own _ rfl _ 68 rfl 86 87 (Keyed.of_law K86) Try.underlying68 _ bl n _ rfl hown ?_; intro w0 hrg0 hg0 hs0)
    | gi_in)
  go_frame
  have hb0 : Bel W w0 := bel_of_grown hg0
  have HJ1 := hide ((unhide HY).own _ _ _ _ (unhide HJ0) hb0)
  have hr0 : W.heap.size < w0.heap.size := by omega
  obtain ⟨X, hX⟩ : ∃ X : Nat → Prop, X = (fun k => (fun _ => False) k ∨ (W.heap.size ≤ k ∧ k < w0.heap.size)) := ⟨_, rfl⟩
  rw [← hX] at HJ1
  have HXr : Hid (X W.heap.size) := hide (by rw [hX]; exact Or.inr ⟨Nat.le_refl _, hr0⟩)
  clear hX hb0 hr0 hs0 hg0
  gi_loopw [3] (fun _ wr => ∃ (left : Lit → Bool) (cnt : Nat) (ss : List (Int × Int)), wr.ranges Try.prog 86 HV bl W.heap.size n D left cnt ∧ ss.length + cnt ≤ Maps.size D ∧ Cl 86 lk D left ss ∧ Hid (J X ss wr))
    (fun _ wr => wr.rangeLeft bl W.heap.size)
  case atStart => exact ⟨_, _, [], hrg0, by simp, Cl.start, HJ1⟩
  case round =>
    obtain ⟨left, cnt, ss, hrg, hcs, hC, HJs⟩ := hrel
    gi_wp2_with (first
      | (gi_at_next; refine wpListIn_next_ranges _ rfl _ rfl 86 (Keyed.of_law K86) HV lk id (fun key kl hk => by obtain ⟨x, hx, _⟩ := key86_inv ⟨kl, hk⟩; exact ⟨x, hx⟩) (fun v _ _ => ⟨v, rfl⟩) bl W.heap.size n _ _ _ rfl hrg ?_ ?_)
      | gi_in)
    · intro hc0 hl0
      gi_wp2
      go_end0
      refine ⟨⟨_, rfl⟩, ss, X, ⟨⟨hC.1, fun x => ⟨fun hx => ?_, fun hx => ?_⟩⟩, by omega⟩, unhide HJs⟩
      · obtain ⟨lx, hlx⟩ := hC.2.1 x hx
        rw [← ((unhide HD) x lx hlx).1]
        exact ((hC.2.2 x lx hlx).1 hx).1
      · obtain ⟨v, hv⟩ := Option.isSome_iff_exists.1 hx
        obtain ⟨lx, hlx⟩ := (unhide HFK) x v hv
        exact (hC.2.2 x lx hlx).2 ⟨by rw [((unhide HD) x lx hlx).1]; exact hx, hl0 lx⟩
    · intro xa xb c kl yd yp w2 cnt2 hkey hlk hv hat hrg2 hlt hg2 hs2 hen
      have hJ2 := (unhide HY).set _ _ _ _ _ (unhide HJs) (unhide HXr) (mapIter_ch hg2)
      have hJ3 := (unhide HY).bel _ _ _ _ hJ2 ((Bel.refl w2).alloc (.cells #[.int .i64 xa, .int .i64 xb] 86))
      have hrg3 := ranges_at (w' := w2.alloc (.cells #[.int .i64 xa, .int .i64 xb] 86)) hrg2 (((Bel.refl w2).alloc _).block _ hrg2.owns.lt) (((Bel.refl w2).alloc _).block _ hrg2.lt)
      obtain ⟨yfn, ytm, yas, ybd, hyr, hyR⟩ := (unhide HY).yld X ss (xa, xb) _ hJ3 (by omega)
      have hyr' : (Instr.yield l #[.agg #[.int .i64 xa, .int .i64 xb]]).run Try.prog (w2.alloc (.cells #[.int .i64 xa, .int .i64 xb] 86)) = .ok (.round l yfn ytm yas ybd) (w2.alloc (.cells #[.int .i64 xa, .int .i64 xb] 86)) := hyr
      have hC2 := hC.step (Keyed.of_law K86) lk_inj hkey hlk hat
      have HYR := hide hyR
      have HC2 := hide hC2
      have HR3 := hide hrg3
      have hw2b : w2.heap[bl]? = w.heap[bl]? := ((unhide HY).old _ _ _ hJ2).block bl hbl0
      have HW2 := hide hw2b
      have HLT := hide hlt
      have HRG := hide hrg
      have hen' : (Instr.entry (.pointer (some ⟨W.heap.size, 0, none⟩))).run Try.prog w2 = .ok (.tuple #[.agg #[.int .i64 xa, .int .i64 xb], id c]) w2 := hen
      simp only [lk]
      clear hJ2 hJ3 hrg3 hyr hyR hC2 hC hw2b hs2 hrg2 hat hv hlk hkey hg2 HJs hlt hrg hen
      gi_wp2_with fail
      refine (unhide HYR).mono ?_
      rintro e w4 ⟨rfl, hj4, hx4⟩
      have hrg4 : w4.ranges Try.prog 86 HV bl W.heap.size n D (fun z => left z && !z.sameKey kl) cnt2 := ranges_at (unhide HR3) (by
        rw [((unhide HY).old _ _ _ hj4).block bl hbl0, ((Bel.refl w2).alloc _).block _ (by have := (unhide HRG).owns.lt; have := unhide HW2; exact lt_of_some ((unhide HW2).trans (hown0.choose_spec.choose_spec.1))), unhide HW2]) (hx4 _ (unhide HXr))
      have HJ4 := hide hj4
      clear hj4 hx4
      gi_wp2
      go_roundw
      case rel => exact ⟨_, cnt2, ss ++ [(xa, xb)], hrg4, by have := unhide HLT; simp; omega, unhide HC2, HJ4⟩
      case measure => rw [hrg4.left_eq, (unhide HRG).left_eq]; exact unhide HLT
end Go.Proofs.Ytbcgikkdhfbphaa
