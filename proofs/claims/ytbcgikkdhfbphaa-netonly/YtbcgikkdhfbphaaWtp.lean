/- All messages, plain. -/
import Derived.Test.YtbcgikkdhfbphaaSrt
namespace Go.Proofs.Ytbcgikkdhfbphaa
/-- All links of N machines, in order. -/
def allp (N : Nat) : List (Int × Int) := (List.range N).flatMap fun (a : Nat) => (List.range N).map fun (b : Nat) => ((a : Int) + 1, (b : Int) + 1)
theorem allp_mem (N : Nat) (x : Int × Int) : x ∈ allp N ↔ (1 ≤ x.1 ∧ x.1 ≤ N) ∧ (1 ≤ x.2 ∧ x.2 ≤ N) := by
  unfold allp
  simp only [List.mem_flatMap, List.mem_range, List.mem_map]
  constructor
  · rintro ⟨a, ha, b, hb, rfl⟩
    exact ⟨⟨by show (1 : Int) ≤ (a : Int) + 1; omega, by show (a : Int) + 1 ≤ (N : Int); omega⟩, by show (1 : Int) ≤ (b : Int) + 1; omega, by show (b : Int) + 1 ≤ (N : Int); omega⟩
  · rintro ⟨⟨h1, h2⟩, h3, h4⟩
    exact ⟨(x.1 - 1).toNat, by omega, (x.2 - 1).toNat, by omega, Prod.ext (by show ((x.1 - 1).toNat : Int) + 1 = x.1; omega) (by show ((x.2 - 1).toNat : Int) + 1 = x.2; omega)⟩
theorem allp_ris (N : Nat) : (allp N).Pairwise lt2 := by
  unfold allp
  rw [List.pairwise_flatMap]
  refine ⟨fun a _ => ?_, ?_⟩
  · rw [List.pairwise_map]
    refine pw_im ?_ (List.pairwise_lt_range (n := N))
    intro b c h
    exact Or.inr ⟨rfl, by show (b : Int) + 1 < (c : Int) + 1; omega⟩
  · refine pw_im ?_ (List.pairwise_lt_range (n := N))
    intro a c h x hx y hy
    obtain ⟨b, _, rfl⟩ := List.mem_map.1 hx
    obtain ⟨d, _, rfl⟩ := List.mem_map.1 hy
    exact Or.inl (by show (a : Int) + 1 < (c : Int) + 1; omega)
/-- The messages of some links. -/
def wpk (L : List Pk) (ks : List (Int × Int)) : List Pk := ks.flatMap fun x => (qs L x.1 x.2).map fun t => (x.1, x.2, t)
/-- All messages. -/
def wt (N : Nat) (L : List Pk) : List Pk := wpk L (allp N)
theorem wpk_len (L : List Pk) (ks : List (Int × Int)) : (wpk L ks).length ≤ ks.length * L.length := by
  unfold wpk
  induction ks with
  | nil => simp
  | cons x ks ih =>
    rw [List.flatMap_cons, List.length_append, List.length_map, List.length_cons, Nat.add_mul]
    have := qs_len L x.1 x.2
    omega
theorem wpk_app (L : List Pk) (ks ms : List (Int × Int)) : wpk L (ks ++ ms) = wpk L ks ++ wpk L ms := List.flatMap_append
theorem wpk_one (L : List Pk) (x : Int × Int) : wpk L [x] = (qs L x.1 x.2).map fun t => (x.1, x.2, t) := by simp [wpk]
theorem wpk_filter (L : List Pk) (ks : List (Int × Int)) : wpk L (ks.filter fun x => !(qs L x.1 x.2).isEmpty) = wpk L ks := by
  induction ks with
  | nil => rfl
  | cons x ks ih =>
    rw [List.filter_cons]
    split
    · rw [show x :: ks.filter _ = [x] ++ ks.filter _ from rfl, wpk_app, ih, ← wpk_app]; rfl
    · rename_i h
      have h0 : qs L x.1 x.2 = [] := by simpa using h
      rw [ih, show x :: ks = [x] ++ ks from rfl, wpk_app, wpk_one, h0]
      rfl
/-- Of links in order that are just those with messages the messages are all. -/
theorem wpk_all {N : Nat} {L : List Pk} {ks : List (Int × Int)} (hr : ks.Pairwise lt2) (hm : ∀ x, x ∈ ks ↔ qs L x.1 x.2 ≠ []) (hL : ∀ p ∈ L, (1 ≤ p.1 ∧ p.1 ≤ N) ∧ (1 ≤ p.2.1 ∧ p.2.1 ≤ N)) : wpk L ks = wt N L := by
  have hin : ∀ (L' : List Pk) (x : Int × Int), qs L' x.1 x.2 ≠ [] → ∃ p ∈ L', p.1 = x.1 ∧ p.2.1 = x.2 := by
    intro L'
    induction L' with
    | nil => intro x h; exact absurd rfl h
    | cons p L' ih =>
      intro x h
      by_cases e : p.1 = x.1 ∧ p.2.1 = x.2
      · exact ⟨p, by simp, e⟩
      · simp only [qs, e, if_false] at h
        obtain ⟨q, hq, e⟩ := ih x h
        exact ⟨q, by simp [hq], e⟩
  unfold wt
  rw [← wpk_filter L (allp N)]
  congr 1
  refine ris_ext _ _ hr ((allp_ris N).filter _) (fun x => ?_)
  rw [hm x, List.mem_filter, allp_mem]
  constructor
  · intro h
    obtain ⟨p, hp, e1, e2⟩ := hin L x h
    have := hL p hp
    rw [e1, e2] at this
    exact ⟨this, by simpa using h⟩
  · rintro ⟨_, h⟩
    simpa using h
end Go.Proofs.Ytbcgikkdhfbphaa
