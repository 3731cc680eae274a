/- Bytes there and back: plain. What was read is those very bytes; the document's reader reads it back: plain. What may be can be there and back: plain. -/
import Derived.Test.YtgofdkheffoilaaGreatRme
import Derived.Test.YtgofdkheffoilaaGreatRfr
namespace Go.Proofs.YtgofdkheffoilaaGreat
open Go.RowKit Go.Maps
theorem ba_join (l k : List UInt8) : (⟨(l ++ k).toArray⟩ : ByteArray) = ⟨l.toArray⟩ ++ ⟨k.toArray⟩ := ba_ext (by rw [ba_app])
theorem ba_back (s : ByteArray) : (⟨s.data.toList.toArray⟩ : ByteArray) = s := ba_ext (by simp)
theorem ba_nil (s : ByteArray) : (⟨#[]⟩ : ByteArray) ++ s = s := ba_ext (by rw [ba_app]; simp)
theorem n0_front (k : Nat) (hk : k < 256) (r : ByteArray) : n0 (⟨#[UInt8.ofNat k]⟩ ++ r) = k := by
  have hs : 0 < ((⟨#[UInt8.ofNat k]⟩ : ByteArray) ++ r).size := by rw [ByteArray.size_append]; have : (⟨#[UInt8.ofNat k]⟩ : ByteArray).size = 1 := rfl; omega
  rw [n0_pos hs]
  have h1 : ((⟨#[UInt8.ofNat k]⟩ : ByteArray) ++ r).data.toList = UInt8.ofNat k :: r.data.toList := by rw [ba_app]; rfl
  have h2 : ((⟨#[UInt8.ofNat k]⟩ : ByteArray) ++ r)[0] = UInt8.ofNat k := by
    have h3 : ((⟨#[UInt8.ofNat k]⟩ : ByteArray) ++ r).data[0]? = some (UInt8.ofNat k) := by
      rw [← Array.getElem?_toList, h1]; rfl
    have h4 := Array.getElem?_eq_getElem (xs := ((⟨#[UInt8.ofNat k]⟩ : ByteArray) ++ r).data) (i := 0) hs
    exact Option.some.inj (h4.symm.trans h3)
  rw [h2]
  simp
  omega
theorem rest_front (k : UInt8) (r : ByteArray) : ((⟨#[k]⟩ : ByteArray) ++ r).extract 1 ((⟨#[k]⟩ : ByteArray) ++ r).size = r := ba_ext (by rw [ba_rest, ba_app]; rfl)
theorem cons_of_pos {l : List UInt8} (h : 0 < l.length) : l = l[0] :: l.drop 1 := by
  cases l with
  | nil => simp at h
  | cons x l => rfl
theorem front_of (s : ByteArray) (h : ¬ s.size = 0) : (⟨#[UInt8.ofNat (n0 s)]⟩ : ByteArray) ++ s.extract 1 s.size = s := by
  apply ba_ext
  rw [ba_app, ba_rest]
  have hs : 0 < s.size := by omega
  have hl : 0 < s.data.toList.length := hs
  rw [n0_pos hs]
  have h3 : UInt8.ofNat (s[0]).toNat = s[0] := by simp
  rw [h3]
  have h4 : s.data.toList = s.data.toList[0] :: s.data.toList.drop 1 := by
    exact cons_of_pos hl
  conv => rhs; rw [h4]
  rfl
-- what is there is read
theorem pnum_back (n : Nat) (hn : n < 2 ^ 64) (r : ByteArray) (f : Bool) : pnum (⟨(num n).toArray⟩ ++ r) f = (n, r, f) := by unfold pnum; rw [rNum_back n hn r]; rfl
theorem pupto_back (m n : Nat) (hm : n ≤ m) (hn : n < 2 ^ 64) (r : ByteArray) (f : Bool) : pupto m (⟨(num n).toArray⟩ ++ r) f = (n, r, f) := by unfold pupto; rw [pnum_back n hn r f]; simp [hm]
theorem pbyte_back (m k : Nat) (hm : k ≤ m) (hk : k < 256) (r : ByteArray) (f : Bool) : pbyte m (⟨#[UInt8.ofNat k]⟩ ++ r) f = (k, r, f) := by
  unfold pbyte
  rw [if_neg (by rw [ByteArray.size_append]; have : (⟨#[UInt8.ofNat k]⟩ : ByteArray).size = 1 := rfl; omega), n0_front k hk r, if_neg (by omega), rest_front]
theorem ptext_back (t : ByteArray) (ht : t.size < 2 ^ 64) (r : ByteArray) (f : Bool) : ptext (ctx t ++ r) f = (t, r, f) := by unfold ptext; rw [rText_back t r ht]; rfl
theorem pidsN_back : ∀ (l : List Int) (r : ByteArray) (f : Bool), (∀ y ∈ l, 0 ≤ y ∧ y ≤ 64) → pidsN l.length (⟨(l.flatMap (fun x => num x.toNat)).toArray⟩ ++ r) f = (l, r, f)
  | [], r, f, _ => by simp [pidsN, ba_nil]
  | y :: l, r, f, h => by
    have hy := h y List.mem_cons_self
    rw [List.length_cons, List.flatMap_cons, ba_join, ByteArray.append_assoc]
    unfold pidsN
    rw [pupto_back 64 y.toNat (by omega) (by omega), pidsN_back l r f (fun z hz => h z (List.mem_cons_of_mem _ hz))]
    simp
    omega
theorem pids_back (l : List Int) (hl : l.length ≤ 64) (h : ∀ y ∈ l, 0 ≤ y ∧ y ≤ 64) (r : ByteArray) (f : Bool) : pids (⟨(idb l).toArray⟩ ++ r) f = (l, r, f) := by
  unfold pids idb
  rw [ba_join, ByteArray.append_assoc, pupto_back 64 l.length hl (by omega)]
  exact pidsN_back l r f h
/-- An entry that can be there and back. -/
structure Ge (e : GE) : Prop where
  t : 0 ≤ e.t ∧ e.t < 18446744073709551616
  k : 0 ≤ e.k ∧ e.k ≤ 2
  d : e.d.size ≤ 1048576
  m : e.m.length ≤ 64
  y : ∀ y ∈ e.m, 0 ≤ y ∧ y ≤ 64
theorem pent_back (e : GE) (h : Ge e) (r : ByteArray) (f : Bool) : pent (entb e ++ r) f = (e, r, f) := by
  unfold pent entb
  have ht := h.t
  have hk := h.k
  have hd := h.d
  rw [ByteArray.append_assoc, ByteArray.append_assoc, ByteArray.append_assoc]
  simp only
  rw [pnum_back e.t.toNat (by omega)]
  simp only
  rw [pbyte_back 2 e.k.toNat (by omega) (by omega)]
  simp only
  rw [ptext_back e.d (by omega)]
  simp only
  rw [pids_back e.m h.m h.y]
  cases e
  simp at ht hk ⊢
  omega
theorem entsb_cons (e : GE) (l : List GE) : (⟨(entsb (e :: l)).toArray⟩ : ByteArray) = entb e ++ ⟨(entsb l).toArray⟩ := by
  unfold entsb
  rw [List.flatMap_cons, ba_join, ba_back]
theorem pentsN_back : ∀ (l : List GE) (r : ByteArray), (∀ e ∈ l, Ge e) → pentsN l.length (⟨(entsb l).toArray⟩ ++ r) false = (l, r, false)
  | [], r, _ => by
    unfold pentsN entsb
    simp [ba_nil]
  | e :: l, r, h => by
    rw [List.length_cons, entsb_cons, ByteArray.append_assoc]
    unfold pentsN
    rw [pent_back e (h e List.mem_cons_self), pentsN_back l r (fun z hz => h z (List.mem_cons_of_mem _ hz))]
    simp
theorem pents_back (m : Nat) (l : List GE) (hl : l.length ≤ m) (hm : m < 1000000) (h : ∀ e ∈ l, Ge e) (r : ByteArray) : pents m (⟨(num l.length).toArray⟩ ++ (⟨(entsb l).toArray⟩ ++ r)) false = (l, r, false) := by
  unfold pents
  rw [pupto_back m l.length hl (by omega)]
  exact pentsN_back l r h
/-- A message that can be there and back. -/
structure Gd (m : GM) : Prop where
  kind : 0 ≤ m.kind ∧ m.kind ≤ 5
  frm : 0 ≤ m.frm ∧ m.frm ≤ 64
  to : 0 ≤ m.to ∧ m.to ≤ 64
  term : 0 ≤ m.term ∧ m.term < 18446744073709551616
  index : 0 ≤ m.index ∧ m.index < 18446744073709551616
  lterm : 0 ≤ m.lterm ∧ m.lterm < 18446744073709551616
  commit : 0 ≤ m.commit ∧ m.commit < 18446744073709551616
  round : 0 ≤ m.round ∧ m.round < 18446744073709551616
  el : m.ents.length ≤ 16
  ee : ∀ e ∈ m.ents, Ge e
  ml : m.mem.length ≤ 64
  me : ∀ y ∈ m.mem, 0 ≤ y ∧ y ≤ 64
  sn : m.snap.size ≤ 1048576
theorem msgb_parts (m : GM) : (⟨(msgb m).toArray⟩ : ByteArray) = ⟨#[UInt8.ofNat m.kind.toNat]⟩ ++ (⟨(num m.frm.toNat).toArray⟩ ++ (⟨(num m.to.toNat).toArray⟩ ++ (⟨(num m.term.toNat).toArray⟩ ++ (⟨(num m.index.toNat).toArray⟩ ++ (⟨(num m.lterm.toNat).toArray⟩ ++ (⟨(num m.commit.toNat).toArray⟩ ++ (⟨(num m.round.toNat).toArray⟩ ++ (⟨#[UInt8.ofNat (if m.ok then 1 else 0)]⟩ ++ (⟨(num m.ents.length).toArray⟩ ++ (⟨(entsb m.ents).toArray⟩ ++ (⟨(idb m.mem).toArray⟩ ++ ctx m.snap))))))))))) := by
  apply ba_ext
  unfold msgb hdb
  simp only [ba_app]
  cases m.ok <;> simp
theorem pmsg_back (m : GM) (h : Gd m) : pmsg ⟨(msgb m).toArray⟩ false = (m, ⟨#[]⟩, false) := by
  obtain ⟨h0, h1, h2, h3, h4, h5, h6, h7, h8, h9, h10, h11, h12⟩ := h
  rw [msgb_parts]
  unfold pmsg
  simp only
  rw [pbyte_back 5 m.kind.toNat (by omega) (by omega)]
  simp only
  rw [pupto_back 64 m.frm.toNat (by omega) (by omega)]
  simp only
  rw [pupto_back 64 m.to.toNat (by omega) (by omega)]
  simp only
  rw [pnum_back m.term.toNat (by omega)]
  simp only
  rw [pnum_back m.index.toNat (by omega)]
  simp only
  rw [pnum_back m.lterm.toNat (by omega)]
  simp only
  rw [pnum_back m.commit.toNat (by omega)]
  simp only
  rw [pnum_back m.round.toNat (by omega)]
  simp only
  rw [pbyte_back 1 (if m.ok then 1 else 0) (by split <;> omega) (by split <;> omega)]
  simp only
  rw [pents_back 16 m.ents h8 (by omega) h9]
  simp only
  rw [pids_back m.mem h10 h11]
  simp only
  have e : ctx m.snap = ctx m.snap ++ ⟨#[]⟩ := ba_ext (by rw [ba_app]; simp)
  rw [e, ptext_back m.snap (by omega)]
  cases m
  simp at h0 h1 h2 h3 h4 h5 h6 h7 ⊢
  refine ⟨by omega, by omega, by omega, by omega, by omega, by omega, by omega, by omega, ?_⟩
  split <;> simp_all
end Go.Proofs.YtgofdkheffoilaaGreat
namespace Go.Proofs.YtgofdkheffoilaaGreat
open Go.RowKit Go.Maps
theorem pnum_one (s : ByteArray) (f : Bool) (h : (pnum s f).2.2 = false) : f = false ∧ (⟨(num (pnum s f).1).toArray⟩ : ByteArray) ++ (pnum s f).2.1 = s := by
  unfold pnum at h ⊢
  by_cases h0 : (rNum s).2.2 = 0
  · rw [if_pos h0] at h ⊢
    exact ⟨h, rNum_one s h0⟩
  · rw [if_neg h0] at h
    simp at h
theorem pupto_one (m : Nat) (s : ByteArray) (f : Bool) (h : (pupto m s f).2.2 = false) : f = false ∧ (⟨(num (pupto m s f).1).toArray⟩ : ByteArray) ++ (pupto m s f).2.1 = s := by
  unfold pupto at h ⊢
  split
  · rename_i h1
    rw [if_pos h1] at h
    exact pnum_one s f h
  · rename_i h1
    rw [if_neg h1] at h
    simp at h
theorem pbyte_one (m : Nat) (s : ByteArray) (f : Bool) (h : (pbyte m s f).2.2 = false) : f = false ∧ (⟨#[UInt8.ofNat (pbyte m s f).1]⟩ : ByteArray) ++ (pbyte m s f).2.1 = s := by
  unfold pbyte at h ⊢
  by_cases h0 : s.size = 0
  · rw [if_pos h0] at h; simp at h
  · rw [if_neg h0] at h ⊢
    by_cases h1 : m < n0 s
    · rw [if_pos h1] at h; simp at h
    · rw [if_neg h1] at h ⊢
      exact ⟨h, front_of s h0⟩
theorem ptext_one (s : ByteArray) (f : Bool) (h : (ptext s f).2.2 = false) : f = false ∧ ctx (ptext s f).1 ++ (ptext s f).2.1 = s := by
  unfold ptext at h ⊢
  by_cases h0 : (rText s).2.2 = 0
  · rw [if_pos h0] at h ⊢
    exact ⟨h, (rText_one s h0).1⟩
  · rw [if_neg h0] at h
    simp at h
theorem pidsN_one : ∀ (n : Nat) (s : ByteArray) (f : Bool), (pidsN n s f).2.2 = false → f = false ∧ (⟨((pidsN n s f).1.flatMap (fun x => num x.toNat)).toArray⟩ : ByteArray) ++ (pidsN n s f).2.1 = s
  | 0, s, f, h => ⟨h, by simp [pidsN, ba_nil]⟩
  | n + 1, s, f, h => by
    unfold pidsN at h ⊢
    have h1 := pidsN_one n (pupto 64 s f).2.1 (pupto 64 s f).2.2 h
    have h2 := pupto_one 64 s f h1.1
    refine ⟨h2.1, ?_⟩
    simp only
    rw [List.flatMap_cons, ba_join, ByteArray.append_assoc, h1.2]
    exact h2.2
theorem pids_one (s : ByteArray) (f : Bool) (h : (pids s f).2.2 = false) : f = false ∧ (⟨(idb (pids s f).1).toArray⟩ : ByteArray) ++ (pids s f).2.1 = s := by
  unfold pids at h ⊢
  have h1 := pidsN_one (pupto 64 s f).1 (pupto 64 s f).2.1 (pupto 64 s f).2.2 h
  have h2 := pupto_one 64 s f h1.1
  refine ⟨h2.1, ?_⟩
  unfold idb
  rw [(pidsN_facts (pupto 64 s f).1 (pupto 64 s f).2.1 (pupto 64 s f).2.2).1, ba_join, ByteArray.append_assoc, h1.2]
  exact h2.2
theorem pent_one (s : ByteArray) (f : Bool) (h : (pent s f).2.2 = false) : f = false ∧ entb (pent s f).1 ++ (pent s f).2.1 = s := by
  unfold pent at h ⊢
  simp only at h ⊢
  have h4 := pids_one _ _ h
  have h3 := ptext_one _ _ h4.1
  have h2 := pbyte_one _ _ _ h3.1
  have h1 := pnum_one _ _ h2.1
  refine ⟨h1.1, ?_⟩
  unfold entb
  rw [ByteArray.append_assoc, ByteArray.append_assoc, ByteArray.append_assoc]
  simp only [Int.toNat_natCast]
  rw [h4.2, h3.2, h2.2]
  exact h1.2
theorem pentsN_one : ∀ (n : Nat) (s : ByteArray) (f : Bool), (pentsN n s f).2.2 = false → f = false ∧ (pentsN n s f).1.length = n ∧ (⟨(entsb (pentsN n s f).1).toArray⟩ : ByteArray) ++ (pentsN n s f).2.1 = s
  | 0, s, f, h => ⟨h, rfl, by simp [pentsN, entsb, ba_nil]⟩
  | n + 1, s, f, h => by
    unfold pentsN at h ⊢
    cases f with
    | true => simp at h
    | false =>
      simp only [Bool.false_eq_true, if_false] at h ⊢
      have h1 := pentsN_one n (pent s false).2.1 (pent s false).2.2 h
      have h2 := pent_one s false h1.1
      refine ⟨trivial, by rw [List.length_cons, h1.2.1], ?_⟩
      rw [entsb_cons, ByteArray.append_assoc, h1.2.2]
      exact h2.2
theorem pents_one (m : Nat) (s : ByteArray) (f : Bool) (h : (pents m s f).2.2 = false) : f = false ∧ (⟨(num (pents m s f).1.length).toArray⟩ : ByteArray) ++ (⟨(entsb (pents m s f).1).toArray⟩ ++ (pents m s f).2.1) = s := by
  unfold pents at h ⊢
  have h1 := pentsN_one (pupto m s f).1 (pupto m s f).2.1 (pupto m s f).2.2 h
  have h2 := pupto_one m s f h1.1
  refine ⟨h2.1, ?_⟩
  rw [h1.2.1, h1.2.2]
  exact h2.2
theorem ba_end (t u : ByteArray) (h : u.size = 0) : t ++ u = t := by
  apply ba_ext
  rw [ba_app, List.eq_nil_of_length_eq_zero (show u.data.toList.length = 0 from h)]
  simp
theorem bit_of (t : Nat) (ht : t ≤ 1) : (if decide ((t : Int) = 1) = true then 1 else 0) = t := by
  by_cases ht1 : t = 1
  · subst ht1; rfl
  · have : t = 0 := by omega
    subst this; rfl
theorem prod3 {A B C : Type} (p : A × B × C) : p = (p.1, p.2.1, p.2.2) := rfl
theorem pmsg_of {s : ByteArray} {f : Bool} {v0 : Nat} {s0 : ByteArray} {g0 : Bool} {v1 : Nat} {s1 : ByteArray} {g1 : Bool} {v2 : Nat} {s2 : ByteArray} {g2 : Bool} {v3 : Nat} {s3 : ByteArray} {g3 : Bool} {v4 : Nat} {s4 : ByteArray} {g4 : Bool} {v5 : Nat} {s5 : ByteArray} {g5 : Bool} {v6 : Nat} {s6 : ByteArray} {g6 : Bool} {v7 : Nat} {s7 : ByteArray} {g7 : Bool} {v8 : Nat} {s8 : ByteArray} {g8 : Bool} {v9 : List GE} {s9 : ByteArray} {g9 : Bool} {v10 : List Int} {s10 : ByteArray} {g10 : Bool} {v11 : ByteArray} {s11 : ByteArray} {g11 : Bool} (e0 : pbyte 5 s f = (v0, s0, g0)) (e1 : pupto 64 s0 g0 = (v1, s1, g1)) (e2 : pupto 64 s1 g1 = (v2, s2, g2)) (e3 : pnum s2 g2 = (v3, s3, g3)) (e4 : pnum s3 g3 = (v4, s4, g4)) (e5 : pnum s4 g4 = (v5, s5, g5)) (e6 : pnum s5 g5 = (v6, s6, g6)) (e7 : pnum s6 g6 = (v7, s7, g7)) (e8 : pbyte 1 s7 g7 = (v8, s8, g8)) (e9 : pents 16 s8 g8 = (v9, s9, g9)) (e10 : pids s9 g9 = (v10, s10, g10)) (e11 : ptext s10 g10 = (v11, s11, g11)) : pmsg s f = (⟨(v0 : Int), (v1 : Int), (v2 : Int), (v3 : Int), (v4 : Int), (v5 : Int), (v6 : Int), (v7 : Int), decide ((v8 : Int) = 1), v9, v10, v11⟩, s11, g11) := by
  unfold pmsg
  simp only [e0]
  simp only [e1]
  simp only [e2]
  simp only [e3]
  simp only [e4]
  simp only [e5]
  simp only [e6]
  simp only [e7]
  simp only [e8]
  simp only [e9]
  simp only [e10]
  simp only [e11]
/-- Reading, step by step. -/
theorem pmsg_steps (s : ByteArray) (f : Bool) : ∃ (v0 : Nat) (s0 : ByteArray) (g0 : Bool) (v1 : Nat) (s1 : ByteArray) (g1 : Bool) (v2 : Nat) (s2 : ByteArray) (g2 : Bool) (v3 : Nat) (s3 : ByteArray) (g3 : Bool) (v4 : Nat) (s4 : ByteArray) (g4 : Bool) (v5 : Nat) (s5 : ByteArray) (g5 : Bool) (v6 : Nat) (s6 : ByteArray) (g6 : Bool) (v7 : Nat) (s7 : ByteArray) (g7 : Bool) (v8 : Nat) (s8 : ByteArray) (g8 : Bool) (v9 : List GE) (s9 : ByteArray) (g9 : Bool) (v10 : List Int) (s10 : ByteArray) (g10 : Bool) (v11 : ByteArray) (s11 : ByteArray) (g11 : Bool), pbyte 5 s f = (v0, s0, g0) ∧ pupto 64 s0 g0 = (v1, s1, g1) ∧ pupto 64 s1 g1 = (v2, s2, g2) ∧ pnum s2 g2 = (v3, s3, g3) ∧ pnum s3 g3 = (v4, s4, g4) ∧ pnum s4 g4 = (v5, s5, g5) ∧ pnum s5 g5 = (v6, s6, g6) ∧ pnum s6 g6 = (v7, s7, g7) ∧ pbyte 1 s7 g7 = (v8, s8, g8) ∧ pents 16 s8 g8 = (v9, s9, g9) ∧ pids s9 g9 = (v10, s10, g10) ∧ ptext s10 g10 = (v11, s11, g11) ∧ pmsg s f = (⟨(v0 : Int), (v1 : Int), (v2 : Int), (v3 : Int), (v4 : Int), (v5 : Int), (v6 : Int), (v7 : Int), decide ((v8 : Int) = 1), v9, v10, v11⟩, s11, g11) :=
  ⟨_, _, _, _, _, _, _, _, _, _, _, _, _, _, _, _, _, _, _, _, _, _, _, _, _, _, _, _, _, _, _, _, _, _, _, _, prod3 _, prod3 _, prod3 _, prod3 _, prod3 _, prod3 _, prod3 _, prod3 _, prod3 _, prod3 _, prod3 _, prod3 _, pmsg_of (prod3 _) (prod3 _) (prod3 _) (prod3 _) (prod3 _) (prod3 _) (prod3 _) (prod3 _) (prod3 _) (prod3 _) (prod3 _) (prod3 _)⟩
theorem pmsg_one (s : ByteArray) (h : (pmsg s false).2.2 = false) (hz : (pmsg s false).2.1.size = 0) : s = ⟨(msgb (pmsg s false).1).toArray⟩ := by
  obtain ⟨v0, s0, g0, v1, s1, g1, v2, s2, g2, v3, s3, g3, v4, s4, g4, v5, s5, g5, v6, s6, g6, v7, s7, g7, v8, s8, g8, v9, s9, g9, v10, s10, g10, v11, s11, g11, e0, e1, e2, e3, e4, e5, e6, e7, e8, e9, e10, e11, e⟩ := pmsg_steps s false
  rw [e] at h hz
  rw [e, msgb_parts]
  simp only at h hz ⊢
  have k0 := pbyte_one 5 s false
  rw [e0] at k0
  have k1 := pupto_one 64 s0 g0
  rw [e1] at k1
  have k2 := pupto_one 64 s1 g1
  rw [e2] at k2
  have k3 := pnum_one s2 g2
  rw [e3] at k3
  have k4 := pnum_one s3 g3
  rw [e4] at k4
  have k5 := pnum_one s4 g4
  rw [e5] at k5
  have k6 := pnum_one s5 g5
  rw [e6] at k6
  have k7 := pnum_one s6 g6
  rw [e7] at k7
  have k8 := pbyte_one 1 s7 g7
  rw [e8] at k8
  have kf := (pbyte_facts 1 s7 g7).1
  rw [e8] at kf
  have k9 := pents_one 16 s8 g8
  rw [e9] at k9
  have k10 := pids_one s9 g9
  rw [e10] at k10
  have k11 := ptext_one s10 g10
  rw [e11] at k11
  have j11 := k11 h
  have j10 := k10 j11.1
  have j9 := k9 j10.1
  have j8 := k8 j9.1
  have j7 := k7 j8.1
  have j6 := k6 j7.1
  have j5 := k5 j6.1
  have j4 := k4 j5.1
  have j3 := k3 j4.1
  have j2 := k2 j3.1
  have j1 := k1 j2.1
  have j0 := k0 j1.1
  simp only at j0 j1 j2 j3 j4 j5 j6 j7 j8 j9 j10 j11 kf
  have e11 : ctx v11 = s10 := by rw [← j11.2, ba_end _ _ hz]
  simp only [Int.toNat_natCast]
  rw [e11, j10.2, j9.2, bit_of v8 kf, j8.2, j7.2, j6.2, j5.2, j4.2, j3.2, j2.2, j1.2]
  exact j0.2.symm
-- the document's reader
theorem qnum_back (m n : Nat) (hm : n ≤ m) (hn : n < 2 ^ 64) (r : ByteArray) (f : Bool) : qnum m (⟨(num n).toArray⟩ ++ r) f = (n, r, f) := by unfold qnum; rw [rNum_back n hn r]; simp [hm]
theorem qbyte_back (k : Nat) (hk : k < 256) (r : ByteArray) (f : Bool) : qbyte (⟨#[UInt8.ofNat k]⟩ ++ r) f = (k, r, f) := by
  unfold qbyte
  rw [if_neg (by rw [ByteArray.size_append]; have : (⟨#[UInt8.ofNat k]⟩ : ByteArray).size = 1 := rfl; omega), n0_front k hk r, rest_front]
theorem qtext_back (t : ByteArray) (ht : t.size < 2 ^ 64) (r : ByteArray) (f : Bool) : qtext (ctx t ++ r) f = (t, r, f) := by unfold qtext; rw [rText_back t r ht]; rfl
theorem qintsN_back : ∀ (l : List Int) (r : ByteArray), (∀ y ∈ l, 0 ≤ y ∧ y ≤ 64) → qintsN l.length (⟨(l.flatMap (fun x => num x.toNat)).toArray⟩ ++ r) false = (l, r, false)
  | [], r, _ => by simp [qintsN, ba_nil]
  | y :: l, r, h => by
    have hy := h y List.mem_cons_self
    rw [List.length_cons, List.flatMap_cons, ba_join, ByteArray.append_assoc]
    unfold qintsN
    rw [qnum_back 1048576 y.toNat (by omega) (by omega), qintsN_back l r (fun z hz => h z (List.mem_cons_of_mem _ hz))]
    simp
    omega
theorem qints_back (l : List Int) (hl : l.length ≤ 64) (h : ∀ y ∈ l, 0 ≤ y ∧ y ≤ 64) (r : ByteArray) : qints (⟨(idb l).toArray⟩ ++ r) false = (l, r, false) := by
  unfold qints idb
  rw [ba_join, ByteArray.append_assoc, qnum_back 1048576 l.length (by omega) (by omega)]
  exact qintsN_back l r h
theorem qent_back (e : GE) (h : Ge e) (r : ByteArray) : qent (entb e ++ r) false = (e, r, false) := by
  unfold qent entb
  have ht := h.t
  have hk := h.k
  have hd := h.d
  rw [ByteArray.append_assoc, ByteArray.append_assoc, ByteArray.append_assoc]
  simp only
  rw [qnum_back 18446744073709551615 e.t.toNat (by omega) (by omega)]
  simp only
  rw [qbyte_back e.k.toNat (by omega)]
  simp only
  rw [qtext_back e.d (by omega)]
  simp only
  rw [qints_back e.m h.m h.y]
  cases e
  simp at ht hk ⊢
  omega
/-- The document's entries, one behind the other. -/
def qentsN : Nat → ByteArray → Bool → List GE × ByteArray × Bool
  | 0, s, f => ([], s, f)
  | n + 1, s, f => if f then ([], s, f) else ((qent s f).1 :: (qentsN n (qent s f).2.1 (qent s f).2.2).1, (qentsN n (qent s f).2.1 (qent s f).2.2).2)
def qents (s : ByteArray) (f : Bool) : List GE × ByteArray × Bool := qentsN (qnum 1048576 s f).1 (qnum 1048576 s f).2.1 (qnum 1048576 s f).2.2
theorem qentsN_back : ∀ (l : List GE) (r : ByteArray), (∀ e ∈ l, Ge e) → qentsN l.length (⟨(entsb l).toArray⟩ ++ r) false = (l, r, false)
  | [], r, _ => by
    unfold qentsN entsb
    simp [ba_nil]
  | e :: l, r, h => by
    rw [List.length_cons, entsb_cons, ByteArray.append_assoc]
    unfold qentsN
    rw [qent_back e (h e List.mem_cons_self), qentsN_back l r (fun z hz => h z (List.mem_cons_of_mem _ hz))]
    simp
theorem qents_back (l : List GE) (hl : l.length ≤ 16) (h : ∀ e ∈ l, Ge e) (r : ByteArray) : qents (⟨(num l.length).toArray⟩ ++ (⟨(entsb l).toArray⟩ ++ r)) false = (l, r, false) := by
  unfold qents
  rw [qnum_back 1048576 l.length (by omega) (by omega)]
  exact qentsN_back l r h
/-- A message as the document reads it. -/
def qmsg (s : ByteArray) (f : Bool) : GM × ByteArray × Bool :=
  let r0 := qbyte s f
  let r1 := qnum 1048576 r0.2.1 r0.2.2
  let r2 := qnum 1048576 r1.2.1 r1.2.2
  let r3 := qnum 18446744073709551615 r2.2.1 r2.2.2
  let r4 := qnum 18446744073709551615 r3.2.1 r3.2.2
  let r5 := qnum 18446744073709551615 r4.2.1 r4.2.2
  let r6 := qnum 18446744073709551615 r5.2.1 r5.2.2
  let r7 := qnum 18446744073709551615 r6.2.1 r6.2.2
  let r8 := qbyte r7.2.1 r7.2.2
  let r9 := qents r8.2.1 r8.2.2
  let r10 := qints r9.2.1 r9.2.2
  let r11 := qtext r10.2.1 r10.2.2
  (⟨(r0.1 : Int), (r1.1 : Int), (r2.1 : Int), (r3.1 : Int), (r4.1 : Int), (r5.1 : Int), (r6.1 : Int), (r7.1 : Int), decide ((r8.1 : Int) = 1), r9.1, r10.1, r11.1⟩, r11.2)
theorem qmsg_back (m : GM) (h : Gd m) : qmsg ⟨(msgb m).toArray⟩ false = (m, ⟨#[]⟩, false) := by
  obtain ⟨h0, h1, h2, h3, h4, h5, h6, h7, h8, h9, h10, h11, h12⟩ := h
  rw [msgb_parts]
  unfold qmsg
  simp only
  rw [qbyte_back m.kind.toNat (by omega)]
  simp only
  rw [qnum_back 1048576 m.frm.toNat (by omega) (by omega)]
  simp only
  rw [qnum_back 1048576 m.to.toNat (by omega) (by omega)]
  simp only
  rw [qnum_back 18446744073709551615 m.term.toNat (by omega) (by omega)]
  simp only
  rw [qnum_back 18446744073709551615 m.index.toNat (by omega) (by omega)]
  simp only
  rw [qnum_back 18446744073709551615 m.lterm.toNat (by omega) (by omega)]
  simp only
  rw [qnum_back 18446744073709551615 m.commit.toNat (by omega) (by omega)]
  simp only
  rw [qnum_back 18446744073709551615 m.round.toNat (by omega) (by omega)]
  simp only
  rw [qbyte_back (if m.ok then 1 else 0) (by split <;> omega)]
  simp only
  rw [qents_back m.ents h8 h9]
  simp only
  rw [qints_back m.mem h10 h11]
  simp only
  have e : ctx m.snap = ctx m.snap ++ ⟨#[]⟩ := ba_ext (by rw [ba_app]; simp)
  rw [e, qtext_back m.snap (by omega)]
  cases m
  simp at h0 h1 h2 h3 h4 h5 h6 h7 ⊢
  refine ⟨by omega, by omega, by omega, by omega, by omega, by omega, by omega, by omega, ?_⟩
  split <;> simp_all
end Go.Proofs.YtgofdkheffoilaaGreat
namespace Go.Proofs.YtgofdkheffoilaaGreat
open Go.RowKit Go.Maps
theorem aids_facts : ∀ (l : List Int) (b : Int), 0 ≤ b → b ≤ 64 → aids b l = true → (∀ x ∈ l, b < x ∧ x ≤ 64) ∧ (l.length : Int) ≤ 64 - b
  | [], b, h0, h1, _ => ⟨fun x hx => by simp at hx, by simp; omega⟩
  | y :: l, b, h0, h1, h => by
    unfold aids idB at h
    simp only [Bool.and_eq_true, Bool.not_eq_true', decide_eq_false_iff_not, decide_eq_true_eq] at h
    obtain ⟨⟨h2, h3, h4⟩, h5⟩ := h
    have ih := aids_facts l y (by omega) h4 h5
    refine ⟨fun x hx => ?_, by rw [List.length_cons]; have := ih.2; omega⟩
    rcases List.mem_cons.1 hx with rfl | hx
    · omega
    · have := ih.1 x hx; omega
/-- The numbers of a message are those of their types, and its texts are not too long. -/
structure Nn (m : GM) : Prop where
  kind : 0 ≤ m.kind
  term : 0 ≤ m.term
  index : 0 ≤ m.index
  lterm : 0 ≤ m.lterm
  commit : 0 ≤ m.commit ∧ m.commit < 18446744073709551616
  round : 0 ≤ m.round
  ee : ∀ e ∈ m.ents, 0 ≤ e.t ∧ 0 ≤ e.k ∧ e.d.size ≤ 1048576
  sn : m.snap.size ≤ 1048576
theorem mayE_facts (e : GE) (h : mayE e = true) : e.k ≤ 2 ∧ e.m.length ≤ 64 ∧ ∀ y ∈ e.m, 0 ≤ y ∧ y ≤ 64 := by
  unfold mayE at h
  have hnil : e.m.length = 0 → e.m.length ≤ 64 ∧ ∀ y ∈ e.m, 0 ≤ y ∧ y ≤ 64 := fun h => ⟨by omega, fun y hy => by rw [List.eq_nil_of_length_eq_zero h] at hy; simp at hy⟩
  split at h
  · rename_i h0
    exact ⟨by omega, hnil (of_decide_eq_true h)⟩
  · split at h
    · rename_i h1
      simp only [Bool.and_eq_true, decide_eq_true_eq] at h
      exact ⟨by omega, hnil h.1⟩
    · split at h
      · rename_i h2
        simp only [Bool.and_eq_true, decide_eq_true_eq] at h
        have := aids_facts e.m 0 (by omega) (by omega) h.1.2
        exact ⟨by omega, by have := this.2; omega, fun y hy => by have := this.1 y hy; omega⟩
      · simp at h
theorem mayEs_facts : ∀ (l : List GE) (lo hi : Int), mayEs lo hi l = true → ∀ e ∈ l, mayE e = true ∧ e.t ≤ hi
  | [], lo, hi, _, e, he => by simp at he
  | x :: l, lo, hi, h, e, he => by
    unfold mayEs at h
    simp only [Bool.and_eq_true, Bool.not_eq_true', decide_eq_false_iff_not] at h
    rcases List.mem_cons.1 he with rfl | he
    · exact ⟨h.1.2, by have := h.1.1.2; omega⟩
    · exact mayEs_facts l x.t hi h.2 e he
theorem gd_of {m : GM} (n : Nn m) (h : mayMB m = true) : Gd m := by
  unfold mayMB at h
  simp only [Bool.and_eq_true] at h
  obtain ⟨⟨⟨hh, hp⟩, hl⟩, he⟩ := h
  unfold headB idB at hh
  simp only [Bool.and_eq_true, decide_eq_true_eq] at hh
  obtain ⟨⟨⟨⟨⟨⟨k1, k2⟩, f1, f2⟩, t1, t2⟩, _⟩, te1⟩, te2⟩ := hh
  have hplace : m.index ≤ 4611686018427387904 ∧ m.round ≤ 4611686018427387904 ∧ m.lterm ≤ m.term := by
    unfold placeB at hp
    split at hp
    · simp at hp
    · rename_i hq
      simp only [Bool.or_eq_true, decide_eq_true_eq, not_or] at hq
      omega
  unfold emptyB unm at he
  have hlists : m.ents.length ≤ 16 ∧ (∀ e ∈ m.ents, mayE e = true ∧ e.t ≤ m.term) ∧ m.mem.length ≤ 64 ∧ (∀ y ∈ m.mem, 0 ≤ y ∧ y ≤ 64) := by
    have nilE : m.ents.length = 0 → m.ents.length ≤ 16 ∧ ∀ e ∈ m.ents, mayE e = true ∧ e.t ≤ m.term := fun h => ⟨by omega, fun e he => by rw [List.eq_nil_of_length_eq_zero h] at he; simp at he⟩
    have nilM : m.mem.length = 0 → m.mem.length ≤ 64 ∧ ∀ y ∈ m.mem, 0 ≤ y ∧ y ≤ 64 := fun h => ⟨by omega, fun e he => by rw [List.eq_nil_of_length_eq_zero h] at he; simp at he⟩
    unfold listsB at hl
    by_cases h5 : m.kind = 5
    · rw [if_pos h5] at he
      simp only [Bool.and_eq_true, decide_eq_true_eq] at he
      rw [h5] at hl
      simp only [Bool.and_eq_true, decide_eq_true_eq, show ((5 : Int) == 3) = false from rfl, show ((5 : Int) == 5) = true from rfl, if_true, Bool.false_eq_true, if_false] at hl
      have z := aids_facts m.mem 0 (by omega) (by omega) hl.2
      have zE := nilE he.1.1.2
      exact ⟨zE.1, zE.2, by have := z.2; omega, fun y hy => by have := z.1 y hy; omega⟩
    · rw [if_neg h5] at he
      by_cases h3 : m.kind = 3
      · rw [if_pos h3] at he
        simp only [Bool.and_eq_true, decide_eq_true_eq] at he
        rw [h3] at hl
        simp only [Bool.and_eq_true, decide_eq_true_eq, show ((3 : Int) == 3) = true from rfl, if_true] at hl
        exact ⟨hl.1, mayEs_facts _ _ _ hl.2, nilM he.1.2⟩
      · rw [if_neg h3] at he
        have hz : m.ents.length = 0 ∧ m.mem.length = 0 := by
          split at he
          · simp only [Bool.and_eq_true, decide_eq_true_eq] at he; exact ⟨he.1.1.2, he.1.2⟩
          · split at he
            · simp only [Bool.and_eq_true, decide_eq_true_eq] at he; exact ⟨he.1.1.2, he.1.2⟩
            · split at he
              · simp only [Bool.and_eq_true, decide_eq_true_eq] at he; exact ⟨he.1.1.2, he.1.2⟩
              · simp only [Bool.and_eq_true, decide_eq_true_eq] at he; exact ⟨he.1.1.2, he.1.2⟩
        exact ⟨(nilE hz.1).1, (nilE hz.1).2, nilM hz.2⟩
  refine ⟨⟨by omega, by omega⟩, ⟨by omega, by omega⟩, ⟨by omega, by omega⟩, ⟨by omega, by omega⟩, ⟨n.index, by omega⟩, ⟨n.lterm, by omega⟩, n.commit, ⟨n.round, by omega⟩, hlists.1, fun e he => ?_, hlists.2.2.1, hlists.2.2.2, n.sn⟩
  have z := n.ee e he
  have z2 := hlists.2.1 e he
  have z3 := mayE_facts e z2.1
  exact ⟨⟨z.1, by omega⟩, ⟨z.2.1, z3.1⟩, z.2.2, z3.2.1, z3.2.2⟩
end Go.Proofs.YtgofdkheffoilaaGreat
