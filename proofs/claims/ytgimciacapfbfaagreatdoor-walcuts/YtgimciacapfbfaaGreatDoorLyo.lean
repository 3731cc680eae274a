/- Open of a disk that has a wal's files, whatever a crash has left behind its records. -/
import Derived.Test.YtgimciacapfbfaaGreatDoorLay
import Derived.Test.YtgimciacapfbfaaGreatDoorOpw
import Derived.Test.YtgimciacapfbfaaGreatDoorCut
namespace Go.Proofs.YtgimciacapfbfaaGreatDoor
open Go.RowKit Go.Maps Go.WideMaps
theorem rf_frm (b r : List UInt8) (hb : b.length ≤ 1048576) : rFrame ⟨(frm b ++ r).toArray⟩ = (⟨b.toArray⟩, ⟨r.toArray⟩, 0) := by
  have h := rFrame_back ⟨b.toArray⟩ ⟨r.toArray⟩ (by show b.toArray.size ≤ _; simp; omega)
  rw [app_str, app_str] at h
  exact h
theorem rf_torn (b : List UInt8) (m : Nat) (hb : b.length ≤ 1048576) (hm : m < (frm b).length) : (rFrame ⟨((frm b).take m).toArray⟩).2.2 ≠ 0 := by
  have hl := frm_len b
  have hsz : (⟨((frm b).take m).toArray⟩ : ByteArray).size = m := by show ((frm b).take m).toArray.size = m; simp; omega
  unfold rFrame
  rw [hsz]
  by_cases h8 : m < 8
  · rw [if_pos h8]; simp
  · rw [if_neg h8]
    have hfl : fLen ⟨((frm b).take m).toArray⟩ = b.length := by
      unfold fLen
      rw [ba_extract]
      show bg ((((frm b).take m).drop 0).take 4) = _
      rw [List.drop_zero, List.take_take, Nat.min_eq_left (by omega)]
      unfold frm headL
      rw [List.append_assoc, List.take_append_of_le_length (by rw [hf_len]; omega), List.take_of_length_le (by rw [hf_len]; omega), bg_hf]
      exact Nat.mod_eq_of_lt (by show b.toArray.size < _; simp; omega)
    rw [hfl, if_neg (by omega), if_pos (by omega)]
    simp
theorem rf_nil : (rFrame ⟨([] : List UInt8).toArray⟩).2.2 ≠ 0 := by
  unfold rFrame
  rw [if_pos (by show 0 < 8; omega)]
  simp
theorem tkr_frs : ∀ (k T : Nat) (c : List (List UInt8)) (t : List UInt8), c.length ≤ k → (∀ b ∈ c, b.length ≤ 1048576) → (c.length = k ∨ (rFrame ⟨t.toArray⟩).2.2 ≠ 0) → (tkr k T (frs c ++ t)).1.map (·.1) = c ∧ (tkr k T (frs c ++ t)).2 = t
  | 0, T, c, t, h, _, _ => by
    obtain rfl : c = [] := List.length_eq_zero_iff.1 (by omega)
    exact ⟨rfl, rfl⟩
  | k + 1, T, [], t, _, _, h => by
    have he : (rFrame ⟨t.toArray⟩).2.2 ≠ 0 := h.elim (fun e => by simp at e) id
    show (tkr (k + 1) T t).1.map _ = [] ∧ (tkr (k + 1) T t).2 = t
    rw [tkr, if_pos he]
    exact ⟨rfl, rfl⟩
  | k + 1, T, b :: c, t, h, hb, ht => by
    have e : frs (b :: c) ++ t = frm b ++ (frs c ++ t) := by show (frm b ++ frs c) ++ t = _; rw [List.append_assoc]
    have h1 := tkr_frs k T c t (by simpa using h) (fun x hx => hb x (List.mem_cons_of_mem _ hx)) (ht.elim (fun e => Or.inl (by simpa using e)) Or.inr)
    have hr := rf_frm b (frs c ++ t) (hb b (by simp))
    rw [e, tkr, hr, if_neg (by simp)]
    refine ⟨?_, h1.2⟩
    show b :: (tkr k T (frs c ++ t)).1.map _ = _
    rw [h1.1]
/-- A file's bytes. -/
def gb (R : List (List UInt8)) (t : List UInt8) (j : Nat) : List UInt8 := frs ((R.drop (32 * j)).take 32) ++ (if j = R.length / 32 then t else [])
def fsl (R : List (List UInt8)) (t : List UInt8) (K : Nat) : List (Nat × List UInt8) := (List.range K).map fun j => (1 + 32 * j, gb R t j)
theorem fsl_get (R : List (List UInt8)) (t : List UInt8) (K m : Nat) (h : m < (fsl R t K).length) : (fsl R t K)[m] = (1 + 32 * m, gb R t m) := by
  have hm : m < K := by unfold fsl at h; simpa using h
  have e : (fsl R t K)[m]? = some (1 + 32 * m, gb R t m) := by unfold fsl; rw [List.getElem?_map, List.getElem?_range hm]; rfl
  exact Option.some.inj ((List.getElem?_eq_getElem h).symm.trans e)
theorem frs_len : ∀ (c : List (List UInt8)), (∀ b ∈ c, b.length ≤ 300) → (frs c).length ≤ 308 * c.length
  | [], _ => Nat.le_refl _
  | b :: c, h => by
    have h1 := frs_len c (fun x hx => h x (List.mem_cons_of_mem _ hx))
    have h2 := h b (by simp)
    have h3 := frm_len b
    have e : (frs (b :: c)).length = (frm b).length + (frs c).length := by show (frm b ++ frs c).length = _; rw [List.length_append]
    rw [e, List.length_cons]
    omega
/-- How many files there are. -/
def nfl (n : Nat) (ex : Bool) : Nat := if ex then n / 32 + 1 else (n + 31) / 32
theorem nfl_iff (n : Nat) (ex : Bool) (j : Nat) : j < nfl n ex ↔ (32 * j < n ∨ (j = n / 32 ∧ ex = true)) := by
  unfold nfl
  cases ex
  · simp; omega
  · simp; omega
/-- Behind m files. -/
structure At (R : List (List UInt8)) (t : List UInt8) (m : Nat) (s : Ld) : Prop where
  nm : s.x.nm = wn
  first : s.x.first = 1
  last : s.x.last = if m = 0 then 0 else 1 + 32 * (m - 1)
  rs : s.x.rs.map (·.1) = R.take (32 * m)
  used : s.used = if m = 0 then 0 else (frs ((R.drop (32 * (m - 1))).take 32)).length
  size : s.size = if m = 0 then 0 else (gb R t (m - 1)).length
  over : s.over = if m = 0 then false else (decide (R.length < 32 * m) || decide (s.used < s.size))
theorem at_one {R : List (List UInt8)} {t : List UInt8} {m : Nat} {s : Ld} (h : At R t m s) (hm : 32 * m ≤ R.length) (hb : ∀ b ∈ R, b.length ≤ 300) (ht : (rFrame ⟨t.toArray⟩).2.2 ≠ 0) : s.fits (1 + 32 * m, gb R t m) ∧ At R t (m + 1) (s.one (1 + 32 * m, gb R t m)) := by
  have hrl : s.x.rs.length = 32 * m := by
    have := congrArg List.length h.rs
    rw [List.length_map, List.length_take] at this
    omega
  have hover : s.over = false := by
    rw [h.over]
    split
    · rfl
    · rename_i h0
      have e1 : decide (R.length < 32 * m) = false := by rw [decide_eq_false_iff_not]; omega
      have e2 : decide (s.used < s.size) = false := by
        rw [decide_eq_false_iff_not, h.used, h.size, if_neg h0, if_neg h0]
        unfold gb
        rw [if_neg (by omega), List.append_nil]
        omega
      rw [e1, e2]; rfl
  refine ⟨⟨hover, ?_⟩, ?_⟩
  · by_cases h0 : m = 0
    · exact Or.inl (by rw [h.last, if_pos h0])
    · exact Or.inr (by unfold PW.next; rw [h.first, hrl])
  · have hcl : ((R.drop (32 * m)).take 32).length ≤ 32 := by rw [List.length_take]; omega
    have htk := tkr_frs 32 (gb R t m).length ((R.drop (32 * m)).take 32) (if m = R.length / 32 then t else []) hcl (fun b hb' => by have := hb b (List.mem_of_mem_drop (List.mem_of_mem_take hb')); omega) (by
      by_cases e : m = R.length / 32
      · rw [if_pos e]; exact Or.inr ht
      · left
        rw [List.length_take, List.length_drop]; omega)
    have hg : frs ((R.drop (32 * m)).take 32) ++ (if m = R.length / 32 then t else []) = gb R t m := rfl
    rw [hg] at htk
    have hfst : (if s.x.last = 0 then 1 + 32 * m else s.x.first) = 1 := by
      rw [h.last, h.first]
      by_cases h0 : m = 0
      · subst h0; simp
      · rw [if_neg h0, if_neg (by omega)]
    have hrs : (s.x.rs ++ (tkr 32 (gb R t m).length (gb R t m)).1).map (·.1) = R.take (32 * (m + 1)) := by
      rw [List.map_append, h.rs, htk.1, show 32 * (m + 1) = 32 * m + 32 by omega, List.take_add]
    have hlen : (s.x.rs ++ (tkr 32 (gb R t m).length (gb R t m)).1).length = min (32 * (m + 1)) R.length := by
      have := congrArg List.length hrs
      rwa [List.length_map, List.length_take] at this
    have hus : (gb R t m).length - (tkr 32 (gb R t m).length (gb R t m)).2.length = (frs ((R.drop (32 * m)).take 32)).length := by
      rw [htk.2, ← hg, List.length_append]; omega
    refine ⟨h.nm, hfst, by rw [if_neg (by omega)]; rfl, hrs, by rw [if_neg (by omega)]; exact hus, by rw [if_neg (by omega)]; rfl, ?_⟩
    rw [if_neg (by omega)]
    show (decide ((if s.x.last = 0 then 1 + 32 * m else s.x.first) + (s.x.rs ++ _).length < 1 + 32 * m + 32) || decide ((gb R t m).length - _ < (gb R t m).length)) = (decide (R.length < 32 * (m + 1)) || decide ((gb R t m).length - _ < (gb R t m).length))
    rw [hfst, hlen]
    congr 1
    rw [decide_eq_decide]
    omega
theorem at_all {R : List (List UInt8)} {t : List UInt8} (hb : ∀ b ∈ R, b.length ≤ 300) (ht : (rFrame ⟨t.toArray⟩).2.2 ≠ 0) (K : Nat) (hK : ∀ j, j < K → 32 * j ≤ R.length) : ∀ m, m ≤ K → At R t m (((fsl R t K).take m).foldl Ld.one ⟨⟨wn, 1, 0, []⟩, 0, 0, false⟩)
  | 0, _ => ⟨rfl, rfl, rfl, rfl, rfl, rfl, rfl⟩
  | m + 1, hm => by
    have ih := at_all hb ht K hK m (by omega)
    have hl : m < (fsl R t K).length := by unfold fsl; simp; omega
    rw [take_one _ m hl, List.foldl_append]
    rw [fsl_get]
    exact (at_one ih (hK m (by omega)) hb ht).2
theorem pth_ris : ∀ K, K ≤ 4 → ((List.range K).map fun j => pth wn (1 + 32 * j)).Pairwise (· < ·)
  | 0, _ => by decide
  | 1, _ => by decide
  | 2, _ => by decide
  | 3, _ => by decide
  | 4, _ => by decide
  | k + 5, h => by omega
theorem open_lay {w0 W : World} {C : Nat} {G : Nat → Prop} {p : Nat} {d : PD} (h : Da w0 C G W p d) (hg : Gl w0) {R : List (List UInt8)} {t : List UInt8} {ex : Bool} (hl : Lay R t ex d.seen) (hn : R.length ≤ 100) (hb : ∀ b ∈ R, b.length ≤ 300) (ht : t = [] ∨ (ex = true ∧ ∃ b m, b.length ≤ 300 ∧ 0 < m ∧ m < (frm b).length ∧ t = (frm b).take m)) (hol : d.ops.length ≤ 500) (hC : C ≤ 1099511627776) :
    Calls Tryz.prog 7 #[.pointer (some ⟨p, 0, none⟩), .string ⟨wn.toArray⟩] W fun e w' => ∃ q x d' ex', e = .returned (.tuple #[.pointer (some ⟨q, 0, none⟩), .int .i64 0]) ∧ Wa w0 C G w' q p x d' ∧ Kp G W w' ∧ x.nm = wn ∧ x.first = 1 ∧ x.rs.map (·.1) = R ∧ Lay R [] ex' d'.seen ∧ d'.ops.length ≤ d.ops.length ∧ (t = [] → d' = d) := by
  have hterr : (rFrame ⟨t.toArray⟩).2.2 ≠ 0 := by
    rcases ht with rfl | ⟨_, b, m, hb1, _, hm, rfl⟩
    · exact rf_nil
    · exact rf_torn b m (by omega) hm
  obtain ⟨K, hKe⟩ : ∃ z, z = nfl R.length ex := ⟨_, rfl⟩
  have hKi : ∀ j, j < K ↔ (32 * j < R.length ∨ (j = R.length / 32 ∧ ex = true)) := fun j => by rw [hKe]; exact nfl_iff _ _ j
  have hK4 : K ≤ 4 := by
    rcases Nat.lt_or_ge 4 K with h' | h'
    · have := (hKi 4).1 h'
      omega
    · exact h'
  have hKle : ∀ j, j < K → 32 * j ≤ R.length := fun j hj => by have := (hKi j).1 hj; omega
  have hat := at_all hb hterr K hKle K (Nat.le_refl _)
  have hfl : (fsl R t K).length = K := by unfold fsl; simp
  rw [List.take_of_length_le (by omega)] at hat
  have hfi : ∀ j (hj : j < (fsl R t K).length), (((fsl R t K).take j).foldl Ld.one ⟨⟨wn, 1, 0, []⟩, 0, 0, false⟩).fits (fsl R t K)[j] := fun j hj => by
    rw [fsl_get]
    exact (at_one (at_all hb hterr K hKle j (by omega)) (hKle j (by omega)) hb hterr).1
  have hmem : ∀ f ∈ fsl R t K, ∃ j, j < K ∧ f = (1 + 32 * j, gb R t j) := fun f hf => by
    unfold fsl at hf
    obtain ⟨j, hj, rfl⟩ := List.mem_map.1 hf
    exact ⟨j, List.mem_range.1 hj, rfl⟩
  have hnms : nms d.seen = ((fsl R t K).map (·.1)).map (pth wn) := by
    have e : ((fsl R t K).map (·.1)).map (pth wn) = (List.range K).map fun j => pth wn (1 + 32 * j) := by unfold fsl; simp
    rw [e]
    refine ris_ext _ _ (nms_ris hl.srt) (pth_ris K hK4) (fun x => ?_)
    have hx := hl.has x
    rw [has_iff] at hx
    constructor
    · intro hm
      obtain ⟨q, hq, rfl⟩ := List.mem_map.1 hm
      obtain ⟨j, hj, e⟩ := hx.1 ⟨q, hq, rfl⟩
      exact List.mem_map.2 ⟨j, List.mem_range.2 ((hKi j).2 hj), e.symm⟩
    · intro hm
      obtain ⟨j, hj, rfl⟩ := List.mem_map.1 hm
      obtain ⟨q, hq, e⟩ := hx.2 ⟨j, (hKi j).1 (List.mem_range.1 hj), rfl⟩
      exact List.mem_map.2 ⟨q, hq, e⟩
  have hget : ∀ j, j < K → get d.seen (pth wn (1 + 32 * j)) = gb R t j := fun j hj => hl.get j (by omega)
  have hhas : ∀ j, j < K → hasF d.seen (pth wn (1 + 32 * j)) = true := fun j hj => (hl.has _).2 ⟨j, (hKi j).1 hj, rfl⟩
  have hrd : ∀ f ∈ fsl R t K, d.rd (pth wn f.1) = (f.2, 0) := fun f hf => by
    obtain ⟨j, hj, rfl⟩ := hmem f hf
    unfold PD.rd
    rw [pth_ok (by decide) _, if_neg (by simp), hhas j hj, if_pos rfl, hget j hj]
  have hsz : ∀ f ∈ fsl R t K, f.2.length ≤ 1000000000 := fun f hf => by
    obtain ⟨j, hj, rfl⟩ := hmem f hf
    have h1 := frs_len ((R.drop (32 * j)).take 32) (fun b hb' => hb b (List.mem_of_mem_drop (List.mem_of_mem_take hb')))
    have h2 : ((R.drop (32 * j)).take 32).length ≤ 32 := by rw [List.length_take]; omega
    have h3 : t.length ≤ 308 := by
      rcases ht with rfl | ⟨_, b, m, hb1, _, hm, rfl⟩
      · simp
      · rw [List.length_take]; have := frm_len b; omega
    show (gb R t j).length ≤ _
    unfold gb
    rw [List.length_append]
    split
    · omega
    · show _ + 0 ≤ _; omega
  obtain ⟨s, hs⟩ : ∃ z, z = (fsl R t K).foldl Ld.one ⟨⟨wn, 1, 0, []⟩, 0, 0, false⟩ := ⟨_, rfl⟩
  rw [← hs] at hat
  have hRs : s.x.rs.map (·.1) = R := by
    rw [hat.rs, List.take_of_length_le]
    by_cases h0 : 32 * K < R.length
    · exact absurd ((hKi K).2 (Or.inl h0)) (by omega)
    · omega
  by_cases htn : t = []
  · subst htn
    have hend : (s.used = s.size ∧ d = d) ∨ (s.used < s.size ∧ ∃ d1 : PD, d1.ops.length ≤ 1000000 ∧ d.tr (pth wn s.x.last) s.used = (0, d1) ∧ d = d1.sync) := Or.inl ⟨by
      rw [hat.used, hat.size]
      split
      · rfl
      · unfold gb; simp, rfl⟩
    refine (open_any h hg wn (by decide) (by decide) (by decide) (fsl R [] K) hnms (fun f hf => by obtain ⟨j, hj, rfl⟩ := hmem f hf; show 1 ≤ 1 + 32 * j ∧ 1 + 32 * j ≤ 100000; omega) (by omega) hsz hrd (by omega) hC hfi s hs.symm hend).mono ?_
    rintro e w' ⟨q, rfl, hwa, hkp⟩
    exact ⟨q, s.x, d, ex, rfl, hwa, hkp, hat.nm, hat.first, hRs, hl, Nat.le_refl _, fun _ => rfl⟩
  · obtain ⟨hex, b, m, hb1, hm0, hm, hte⟩ : ex = true ∧ ∃ b m, b.length ≤ 300 ∧ 0 < m ∧ m < (frm b).length ∧ t = (frm b).take m := ht.resolve_left htn
    have htl : 0 < t.length := by cases t with | nil => exact absurd rfl htn | cons _ _ => simp
    have hKv : K = R.length / 32 + 1 := by rw [hKe, hex]; rfl
    have hlast : s.x.last = 1 + 32 * (R.length / 32) := by rw [hat.last, if_neg (by omega)]; omega
    have hused : s.used = (frs ((R.drop (32 * (R.length / 32))).take 32)).length := by rw [hat.used, if_neg (by omega), hKv]; rfl
    have hsize : s.size = (frs ((R.drop (32 * (R.length / 32))).take 32)).length + t.length := by
      rw [hat.size, if_neg (by omega), hKv]
      show (gb R t (R.length / 32)).length = _
      unfold gb
      rw [if_pos rfl, List.length_append]
    have hgl : get d.seen (pth wn (1 + 32 * (R.length / 32))) = gb R t (R.length / 32) := hget _ (by omega)
    have htr := tr_ok (d := d) (n := pth wn (1 + 32 * (R.length / 32))) (k := s.used) (pth_ok (by decide) _) (hhas _ (by omega)) (by rw [hgl, hused]; unfold gb; rw [List.length_append]; omega)
    subst hex
    have hcut := lay_cut hl (by omega)
    rw [← hused] at hcut
    refine (open_any (d' := PD.sync ⟨d.room, run5 d.seen (.tr (pth wn (1 + 32 * (R.length / 32))) s.used), d.synced, d.ops ++ [.tr (pth wn (1 + 32 * (R.length / 32))) s.used]⟩) h hg wn (by decide) (by decide) (by decide) (fsl R t K) hnms (fun f hf => by obtain ⟨j, hj, rfl⟩ := hmem f hf; show 1 ≤ 1 + 32 * j ∧ 1 + 32 * j ≤ 100000; omega) (by omega) hsz hrd (by omega) hC hfi s hs.symm (Or.inr ⟨by omega, _, by simp; omega, by rw [hlast]; exact htr, rfl⟩)).mono ?_
    rintro e w' ⟨q, rfl, hwa, hkp⟩
    exact ⟨q, s.x, _, true, rfl, hwa, hkp, hat.nm, hat.first, hRs, hcut, Nat.zero_le _, fun e => absurd e htn⟩
end Go.Proofs.YtgimciacapfbfaaGreatDoor
