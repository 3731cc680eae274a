/- What a call may change; a disk of the program in memory. -/
import Derived.Test.YtpngcmlaimcceaaFil
import Derived.Laws.OwnMore
import Derived.Deep.AppendLies
import Derived.Deep.OwnRows
import Derived.WalkLawsBesides
import Derived.WalkSpells
import Derived.Laws.IdiomStrings
namespace Go.Proofs.Ytpngcmlaimcceaa
open Go.RowKit Go.Maps Go.WideMaps
def Bel (w w' : World) : Prop := Below w.heap.size w w'
theorem Bel.refl (w : World) : Bel w w := Below.refl _ _
theorem Bel.trans {a b c : World} (h : Bel a b) (k : Bel b c) : Bel a c := Below.trans h (Below.mono k h.size)
theorem Bel.drew {a b : World} (h : Bel a b) : Bel a b.drew := Below.drew h
theorem Bel.alloc {a b : World} (h : Bel a b) (o : Obj) : Bel a (b.alloc o) := Below.alloc h h.size o
theorem Bel.row {a b : World} (h : Bel a b) {k : Nat} {o : Obj} (hr : a.heap[k]? = some o) : b.heap[k]? = some o := by
  rw [h.block k (by rcases Nat.lt_or_ge k a.heap.size with h' | h'; exact h'; simp [h'] at hr)]; exact hr
/-- Of what was there nothing has changed but blocks of M. -/
structure Ch (M : Nat → Prop) (w w' : World) : Prop where
  os : w'.os = w.os
  tape : w'.tape = w.tape
  output : w'.output = w.output
  size : w.heap.size ≤ w'.heap.size
  block : ∀ k, k < w.heap.size → ¬ M k → w'.heap[k]? = w.heap[k]?
theorem Ch.refl (M : Nat → Prop) (w : World) : Ch M w w := ⟨rfl, rfl, rfl, Nat.le_refl _, fun _ _ _ => rfl⟩
theorem Ch.trans {M M' : Nat → Prop} {a b c : World} (h : Ch M a b) (k : Ch M' b c) (hm : ∀ i, M' i → M i ∨ a.heap.size ≤ i) : Ch M a c :=
  ⟨k.os.trans h.os, k.tape.trans h.tape, k.output.trans h.output, Nat.le_trans h.size k.size, fun i hi hn => (k.block i (Nat.lt_of_lt_of_le hi h.size) (fun h' => (hm i h').elim hn (fun h2 => by omega))).trans (h.block i hi hn)⟩
theorem Ch.mono {M M' : Nat → Prop} {a b : World} (h : Ch M a b) (hm : ∀ i, M i → M' i) : Ch M' a b := ⟨h.os, h.tape, h.output, h.size, fun i hi hn => h.block i hi (fun h' => hn (hm i h'))⟩
theorem Ch.bel {M : Nat → Prop} {a b c : World} (h : Ch M a b) (k : Bel b c) : Ch M a c :=
  ⟨k.os.trans h.os, k.tape.trans h.tape, k.output.trans h.output, Nat.le_trans h.size k.size, fun i hi hn => (k.block i (Nat.lt_of_lt_of_le hi h.size)).trans (h.block i hi hn)⟩
theorem Bel.ch {a b : World} (k : Bel a b) (M : Nat → Prop) : Ch M a b := (Ch.refl M a).bel k
theorem Ch.drew {M : Nat → Prop} {a b : World} (h : Ch M a b) : Ch M a b.drew := h.bel (Bel.refl b).drew
theorem Ch.alloc {M : Nat → Prop} {a b : World} (h : Ch M a b) (o : Obj) : Ch M a (b.alloc o) := h.bel ((Bel.refl b).alloc o)
theorem Ch.set {M : Nat → Prop} {a b : World} (h : Ch M a b) {ad : Addr} (hm : M ad.block ∨ a.heap.size ≤ ad.block) (v : Value) : Ch M a (b.setCell ad v) := by
  refine ⟨?_, ?_, ?_, ?_, fun i hi hn => ?_⟩
  · rw [← h.os]; unfold World.setCell; split <;> rfl
  · rw [← h.tape]; unfold World.setCell; split <;> rfl
  · rw [← h.output]; unfold World.setCell; split <;> rfl
  · have : (b.setCell ad v).heap.size = b.heap.size := by unfold World.setCell; split <;> simp
    rw [this]; exact h.size
  · rw [Below.heap_setCell _ _ _ _ (fun e => ?_)]
    · exact h.block i hi hn
    · rcases hm with h' | h'
      · rw [← e] at h'; exact hn h'
      · omega
theorem Ch.grown {M : Nat → Prop} {a b c : World} {row : Option Nat} (h : Ch M a b) (k : b.grownBy c row) (hm : ∀ i, row = some i → M i ∨ a.heap.size ≤ i) : Ch M a c :=
  ⟨k.os.trans h.os, k.tape.trans h.tape, k.output.trans h.output, Nat.le_trans h.size k.size, fun i hi hn => (k.block i (Nat.lt_of_lt_of_le hi h.size) (fun e => (hm i e.symm).elim hn (fun h2 => by omega))).trans (h.block i hi hn)⟩
theorem Ch.below {M : Nat → Prop} {a b : World} {B : Nat} (h : Ch M a b) (hB : B ≤ a.heap.size) (hm : ∀ i, M i → B ≤ i) : Below B a b :=
  ⟨h.os, h.tape, h.output, h.size, fun i hi => h.block i (by omega) (fun h' => by have := hm i h'; omega)⟩
theorem lt_of_some {w : World} {k : Nat} {o : Obj} (h : w.heap[k]? = some o) : k < w.heap.size := (Array.getElem?_eq_some_iff.1 h).1
theorem Ch.row {M : Nat → Prop} {a b : World} (h : Ch M a b) {k : Nat} {o : Obj} (hr : a.heap[k]? = some o) (hn : ¬ M k) : b.heap[k]? = some o := (h.block k (lt_of_some hr) hn).trans hr
theorem own_at {w w' : World} {b n : Nat} {D : DataW Unit} {P : Program} {k : TypeId} {R : Value → Option (DataW Unit × List MemPlace)} (h : w.ownsMap P k R b n D) (e : w'.heap[b]? = w.heap[b]?) : w'.ownsMap P k R b n D := by
  obtain ⟨es, clock, hb, r⟩ := h
  exact ⟨es, clock, e.trans hb, r⟩
theorem own_tight {w : World} {b n : Nat} {D : DataW Unit} {P : Program} {k : TypeId} {R : Value → Option (DataW Unit × List MemPlace)} (h : w.ownsMap P k R b n D) : w.ownsMap P k R b (Maps.size D) D := by
  obtain ⟨es, clock, hb, F, hs, rfl⟩ := h
  exact ⟨es, clock, hb, F, by simp [Maps.size, length_sorted], rfl⟩
theorem row_at {w w' : World} {base : Nat} {e : TypeId} {size : Nat} {v : Value} {n : Nat} {xs : List Value} (h : w.ownsRow base e size v n xs) (hb : ∀ k, v.ownBlock = some k → w'.heap[k]? = w.heap[k]?) : w'.ownsRow base e size v n xs := by
  refine ⟨h.1, ?_⟩
  rcases h.2 with h' | ⟨g, cap, cur, rfl, h1, h2, h3⟩
  · exact Or.inl h'
  · exact Or.inr ⟨g, cap, cur, rfl, h1, (hb g rfl).trans h2, h3⟩
theorem cell_of {W : World} {B i : Nat} {c : Array Value} {t : TypeId} (h : W.heap[B]? = some (.cells c t)) : W.cell? ⟨B, i, none⟩ = c[i]? := by
  simp only [World.cell?, h]; rfl
theorem free_row {W : World} {b p : Nat} {c : Array Value} {t : TypeId} (h : W.heap[b]? = some (.cells c t)) : W.frozen? ⟨b, p, none⟩ = false := by
  unfold World.frozen?
  simp only [h]
  simp
theorem row_set {W : World} {b p : Nat} {c : Array Value} {t : TypeId} {fr : Nat × Nat} {v : Value} (h : W.heap[b]? = some (.cells c t fr)) : (W.setCell ⟨b, p, none⟩ v).heap[b]? = some (.cells (c.setIfInBounds p v) t fr) := by
  rw [setCell_eq_setRow W b p c t fr v h]
  exact setRow_heap W b c _ t fr h
/-! ### a file as an element of a map -/
def fileE : Value → Option (DataW Unit × List MemPlace)
  | .agg cs => match cs.toList with
    | [.string s] => if s.size ≤ maxLen then some (.lit (.string s.data.toList), []) else none
    | _ => none
  | _ => none
def vF (b : List UInt8) : Value := .agg #[.string ⟨b.toArray⟩]
theorem fileE_mk {b : List UInt8} (h : b.length ≤ maxLen) : fileE (vF b) = some (.lit (.string b), []) := by
  have : (⟨b.toArray⟩ : ByteArray).size ≤ maxLen := by show b.toArray.size ≤ _; simpa using h
  simp [fileE, vF, this]
theorem fileE_inv {v : Value} {z : DataW Unit × List MemPlace} (h : fileE v = some z) : ∃ b : List UInt8, v = vF b ∧ z = (.lit (.string b), []) ∧ b.length ≤ maxLen := by
  unfold fileE at h
  split at h
  · rename_i cs
    split at h
    · rename_i s hs
      split at h
      · rename_i hl
        cases h
        refine ⟨s.data.toList, ?_, rfl, ?_⟩
        · unfold vF
          congr 1
          apply Array.toList_inj.1
          rw [hs]
        · simpa using hl
      · cases h
    · cases h
  · cases h
theorem law9 : Keyed Try.prog 9 := string_keyed Try.underlying9
theorem key_ok {x : List UInt8} (h : x.length ≤ maxLen) : keyOf Try.prog 9 (.string ⟨x.toArray⟩) = some (.string x) := by
  refine keyOf_string_mk Try.underlying9 ?_
  show x.toArray.size ≤ _
  simpa using h
/-- Block b is a map of these files. -/
def Mp (w : World) (b : Nat) (l : Fs) : Prop := w.ownsMap Try.prog 9 fileE b l.length (fD l)
theorem Mp.lt {w : World} {b : Nat} {l : Fs} (h : Mp w b l) : b < w.heap.size := World.ownsMap.lt h
theorem Mp.at {w w' : World} {b : Nat} {l : Fs} (h : Mp w b l) (e : w'.heap[b]? = w.heap[b]?) : Mp w' b l := own_at h e
theorem Mp.ch {M : Nat → Prop} {w w' : World} {b : Nat} {l : Fs} (h : Mp w b l) (c : Ch M w w') (hn : ¬ M b) : Mp w' b l := h.at (c.block b h.lt hn)
theorem Mp.bel {w w' : World} {b : Nat} {l : Fs} (h : Mp w b l) (c : Bel w w') : Mp w' b l := h.at (c.block b h.lt)
theorem Mp.of {w : World} {b n : Nat} {l : Fs} (h : w.ownsMap Try.prog 9 fileE b n (fD l)) : Mp w b l := by
  have := own_tight h
  rw [fD_size] at this
  exact this
theorem Mp.ne_row {w : World} {b k : Nat} {l : Fs} {c : Array Value} {t : TypeId} {fr : Nat × Nat} (h : Mp w b l) (hr : w.heap[k]? = some (.cells c t fr)) : b ≠ k := by
  obtain ⟨es, clock, hb, _⟩ := h
  intro e
  rw [e, hr] at hb
  cases hb
/-! ### what is loose -/
/-- A box that holds one value. -/
def Box (w : World) (B : Nat → Prop) (b : Nat) (v : Value) (t : TypeId) : Prop := B b ∧ w.heap[b]? = some (.cells #[v] t)
def vS (b : List UInt8) : Value := .string ⟨b.toArray⟩
/-- The closure of a thing. -/
def Clo (w : World) (B : Nat → Prop) (f : Value) : Op5 → Prop
  | .inl (n, _) => ∃ b, Box w B b (vS n) 9 ∧ f = .func (.func 40) #[] #[.pointer (some ⟨b, 0, none⟩)]
  | .inr (.inl (n, _)) => ∃ b, Box w B b (vS n) 9 ∧ f = .func (.func 38) #[] #[.pointer (some ⟨b, 0, none⟩)]
  | .inr (.inr (.inl (n, k))) => ∃ b c, Box w B b (vS n) 9 ∧ Box w B c (.int .i64 k) 3 ∧ f = .func (.func 45) #[] #[.pointer (some ⟨b, 0, none⟩), .pointer (some ⟨c, 0, none⟩)]
  | .inr (.inr (.inr (.inl (a, n)))) => ∃ b c, Box w B b (vS a) 9 ∧ Box w B c (vS n) 9 ∧ f = .func (.func 46) #[] #[.pointer (some ⟨b, 0, none⟩), .pointer (some ⟨c, 0, none⟩)]
  | .inr (.inr (.inr (.inr n))) => ∃ b, Box w B b (vS n) 9 ∧ f = .func (.func 47) #[] #[.pointer (some ⟨b, 0, none⟩)]
theorem Box.at {w w' : World} {B B' : Nat → Prop} {b : Nat} {v : Value} {t : TypeId} (h : Box w B b v t) (hb : ∀ i, B i → B' i ∧ w'.heap[i]? = w.heap[i]?) : Box w' B' b v t := ⟨(hb b h.1).1, (hb b h.1).2.trans h.2⟩
theorem Clo.at {w w' : World} {B B' : Nat → Prop} {f : Value} {o : Op5} (h : Clo w B f o) (hb : ∀ i, B i → B' i ∧ w'.heap[i]? = w.heap[i]?) : Clo w' B' f o := by
  cases o using Op5.on with
  | app n t => obtain ⟨b, h1, h2⟩ := h; exact ⟨b, h1.at hb, h2⟩
  | wr n t => obtain ⟨b, h1, h2⟩ := h; exact ⟨b, h1.at hb, h2⟩
  | tr n k => obtain ⟨b, c, h1, h2, h3⟩ := h; exact ⟨b, c, h1.at hb, h2.at hb, h3⟩
  | ren a n => obtain ⟨b, c, h1, h2, h3⟩ := h; exact ⟨b, c, h1.at hb, h2.at hb, h3⟩
  | rm n => obtain ⟨b, h1, h2⟩ := h; exact ⟨b, h1.at hb, h2⟩
/-- The cells of what is loose. -/
def Th (w : World) (B : Nat → Prop) : List Op5 → List Value → Prop
  | [], cs => cs = []
  | o :: r, cs => ∃ f cr, cs = vS (txt5 o) :: f :: cr ∧ Clo w B f o ∧ Th w B r cr
theorem Th.at {w w' : World} {B B' : Nat → Prop} (hb : ∀ i, B i → B' i ∧ w'.heap[i]? = w.heap[i]?) : ∀ {r : List Op5} {cs : List Value}, Th w B r cs → Th w' B' r cs
  | [], _, h => h
  | _ :: _, _, ⟨f, cr, h1, h2, h3⟩ => ⟨f, cr, h1, h2.at hb, Th.at hb h3⟩
theorem Th.snoc {w : World} {B : Nat → Prop} {o : Op5} {f : Value} (hf : Clo w B f o) : ∀ {r : List Op5} {cs : List Value}, Th w B r cs → Th w B (r ++ [o]) (cs ++ [vS (txt5 o), f])
  | [], cs, h => by cases h; exact ⟨f, [], rfl, hf, rfl⟩
  | q :: r, _, ⟨g, cr, h1, h2, h3⟩ => ⟨g, cr ++ [vS (txt5 o), f], by rw [h1]; rfl, h2, Th.snoc hf h3⟩
theorem Th.len {w : World} {B : Nat → Prop} : ∀ {r : List Op5} {cs : List Value}, Th w B r cs → cs.length = r.length * 2
  | [], _, h => by cases h; rfl
  | _ :: r, _, ⟨f, cr, h1, _, h3⟩ => by have := Th.len h3; rw [h1]; simp; omega
theorem Th.get {w : World} {B : Nat → Prop} : ∀ {r : List Op5} {cs : List Value}, Th w B r cs → ∀ k (h : k < r.length), ∃ f, cs[k * 2]? = some (vS (txt5 r[k])) ∧ cs[k * 2 + 1]? = some f ∧ Clo w B f r[k]
  | o :: r, _, ⟨f, cr, h1, h2, h3⟩, 0, _ => by subst h1; exact ⟨f, rfl, rfl, h2⟩
  | o :: r, _, ⟨f, cr, h1, h2, h3⟩, k + 1, h => by
    subst h1
    obtain ⟨g, e1, e2, e3⟩ := Th.get h3 k (by simpa using h)
    refine ⟨g, ?_, ?_, e3⟩
    · rw [show (k + 1) * 2 = k * 2 + 1 + 1 by omega]; exact e1
    · rw [show (k + 1) * 2 + 1 = k * 2 + 1 + 1 + 1 by omega]; exact e2
/-- A disk's five cells and what they lead to. -/
structure Co (w : World) (p bs bk : Nat) (v : Value) (room used : Int) (seen synced : Fs) (n : Nat) (cs : List Value) : Prop where
  row : w.heap[p]? = some (.cells #[.int .i64 room, .int .i64 used, .map (some bs), .map (some bk), v] 57)
  ms : Mp w bs seen
  my : Mp w bk synced
  lo : w.ownsRow 0 73 2 v n cs
  ne : bs ≠ bk
  nv : v.ownBlock ≠ some p
  em : n = 0 → v = .slice none 0 0
/-- The blocks that a disk's calls may change. -/
def Fp (p bs bk : Nat) (v : Value) : Nat → Prop := fun i => i = p ∨ i = bs ∨ i = bk ∨ v.ownBlock = some i
theorem Co.at {w w' : World} {p bs bk : Nat} {v : Value} {room used : Int} {seen synced : Fs} {n : Nat} {cs : List Value} (h : Co w p bs bk v room used seen synced n cs) (hb : ∀ i, Fp p bs bk v i → w'.heap[i]? = w.heap[i]?) : Co w' p bs bk v room used seen synced n cs :=
  ⟨(hb p (Or.inl rfl)).trans h.row, h.ms.at (hb bs (Or.inr (Or.inl rfl))), h.my.at (hb bk (Or.inr (Or.inr (Or.inl rfl)))), row_at h.lo (fun k hk => hb k (Or.inr (Or.inr (Or.inr hk)))), h.ne, h.nv, h.em⟩
theorem Co.lt {w : World} {p bs bk : Nat} {v : Value} {room used : Int} {seen synced : Fs} {n : Nat} {cs : List Value} (h : Co w p bs bk v room used seen synced n cs) : ∀ i, Fp p bs bk v i → i < w.heap.size := by
  rintro i (rfl | rfl | rfl | hi)
  · exact lt_of_some h.row
  · exact h.ms.lt
  · exact h.my.lt
  · exact (h.lo.lt i hi).2
theorem Co.bel {w w' : World} {p bs bk : Nat} {v : Value} {room used : Int} {seen synced : Fs} {n : Nat} {cs : List Value} (h : Co w p bs bk v room used seen synced n cs) (c : Bel w w') : Co w' p bs bk v room used seen synced n cs := h.at (fun i hi => c.block i (h.lt i hi))
/-- A disk of the program: C bounds its bytes; M: what its calls may change; B: what they read besides. -/
structure Dk (C : Nat) (w : World) (p : Nat) (d : PD) (M B : Nat → Prop) : Prop where
  co : ∃ bs bk v cs, Co w p bs bk v d.room (tot d.seen) d.seen d.synced d.ops.length cs ∧ Th w B d.ops cs ∧ ∀ i, Fp p bs bk v i → M i
  seen : d.seen = d.ops.foldl run5 d.synced
  val : Val C d.synced d.ops
  dis : ∀ i, M i → B i → False
  ltM : ∀ i, M i → i < w.heap.size
  ltB : ∀ i, B i → i < w.heap.size
  room : d.room < 9223372036854775808
/-- How a call leaves a disk. -/
def Aft (C : Nat) (w : World) (p : Nat) (M B : Nat → Prop) (d' : PD) (w' : World) : Prop := ∃ M' B', Dk C w' p d' M' B' ∧ (∀ i, M' i → M i ∨ w.heap.size ≤ i) ∧ (∀ i, B' i → B i ∨ w.heap.size ≤ i) ∧ Ch M w w'
theorem Dk.at {C : Nat} {w w' : World} {p : Nat} {d : PD} {M B : Nat → Prop} (h : Dk C w p d M B) (hs : w.heap.size ≤ w'.heap.size) (hb : ∀ i, M i ∨ B i → w'.heap[i]? = w.heap[i]?) : Dk C w' p d M B := by
  obtain ⟨bs, bk, v, cs, h1, h2, h3⟩ := h.co
  exact ⟨⟨bs, bk, v, cs, h1.at (fun i hi => hb i (Or.inl (h3 i hi))), h2.at (fun i hi => ⟨hi, hb i (Or.inr hi)⟩), h3⟩, h.seen, h.val, h.dis, fun i hi => Nat.lt_of_lt_of_le (h.ltM i hi) hs, fun i hi => Nat.lt_of_lt_of_le (h.ltB i hi) hs, h.room⟩
theorem Dk.bel {C : Nat} {w w' : World} {p : Nat} {d : PD} {M B : Nat → Prop} (h : Dk C w p d M B) (c : Bel w w') : Dk C w' p d M B := h.at c.size (fun i hi => c.block i (hi.elim (h.ltM i) (h.ltB i)))
theorem Dk.aft {C : Nat} {w w' : World} {p : Nat} {d : PD} {M B : Nat → Prop} (h : Dk C w p d M B) (c : Bel w w') : Aft C w p M B d w' := ⟨M, B, h.bel c, fun _ hi => Or.inl hi, fun _ hi => Or.inl hi, c.ch M⟩
theorem Aft.bel {C : Nat} {w w' w'' : World} {p : Nat} {d : PD} {M B : Nat → Prop} (h : Aft C w p M B d w') (c : Bel w' w'') : Aft C w p M B d w'' := by
  obtain ⟨M', B', h1, h2, h3, h4⟩ := h
  exact ⟨M', B', h1.bel c, h2, h3, h4.bel c⟩
theorem Aft.from {C : Nat} {w w' w'' : World} {p : Nat} {d : PD} {M B : Nat → Prop} (h : Aft C w' p M B d w'') (c : Bel w w') : Aft C w p M B d w'' := by
  obtain ⟨M', B', h1, h2, h3, h4⟩ := h
  exact ⟨M', B', h1, fun i hi => (h2 i hi).elim Or.inl (fun h => Or.inr (Nat.le_trans c.size h)), fun i hi => (h3 i hi).elim Or.inl (fun h => Or.inr (Nat.le_trans c.size h)), (c.ch M).trans h4 (fun i hi => Or.inl hi)⟩
end Go.Proofs.Ytpngcmlaimcceaa
