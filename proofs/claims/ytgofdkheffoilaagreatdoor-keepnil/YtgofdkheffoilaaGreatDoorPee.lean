/- Members and messages in memory. -/
import Derived.Test.YtgofdkheffoilaaGreatDoorRow
namespace Go.Proofs.YtgofdkheffoilaaGreatDoor
open Go.RowKit Go.Maps
/-- Rows of numbers. -/
def E3 : El Int := { enc := fun x => [.int .i64 x], k := 1, e := 3, t := 22, bytes := 8, z := .int .i64 0, hk := by decide, len := fun _ => rfl, one := fun x u hu => by simp at hu; rw [hu]; rfl, ht := Tryz.underlying22, hi := by kernel_rfl, hz := rfl, hb := by decide }
/-- Rows of entries. -/
def encE (x : PE) : List Value := [.int .u64 x.t, .int .u8 x.k, .string x.d, .slice none 0 0]
def E69 : El PE := { enc := encE, k := 4, e := 76, t := 25, bytes := 56, z := .agg #[.int .u64 0, .int .u8 0, .string ⟨#[]⟩, .slice none 0 0], hk := by decide, len := fun _ => rfl, one := fun x u hu => by simp [encE] at hu; rcases hu with rfl | rfl | rfl | rfl <;> rfl, ht := Tryz.underlying25, hi := by kernel_rfl, hz := rfl, hb := by decide }
/-- Rows of what a leader knows of the others. -/
def encF (x : Int × Int × Int) : List Value := [.int .i64 x.1, .int .u64 x.2.1, .int .u64 x.2.2]
def E65 : El (Int × Int × Int) := { enc := encF, k := 3, e := 48, t := 26, bytes := 24, z := .agg #[.int .i64 0, .int .u64 0, .int .u64 0], hk := by decide, len := fun _ => rfl, one := fun x u hu => by simp [encF] at hu; rcases hu with rfl | rfl | rfl <;> rfl, ht := Tryz.underlying26, hi := by kernel_rfl, hz := rfl, hb := by decide }
/-- Where a member's lists lie. -/
structure Px where
  aM : Option Addr
  cM : Nat
  aB : Option Addr
  cB : Nat
  aL : Option Addr
  cL : Nat
  aV : Option Addr
  cV : Nat
  aF : Option Addr
  cF : Nat
  aR : Option Addr
  cR : Nat
/-- A member's cells. -/
def pc (n : Nat) (s : PP) (x : Px) : Array Value := #[.int .i64 s.id, .slice x.aM n x.cM, .int .u64 s.term, .int .i64 s.vote, .int .u8 s.role, .int .i64 s.lead, .int .u64 0, .int .u64 0, .slice x.aB n x.cB, .string ⟨#[]⟩, .slice x.aL s.log.length x.cL, .int .u64 s.commit, .int .i64 s.idle, .int .i64 s.wait, .slice x.aV s.votes.length x.cV, .slice x.aF s.fol.length x.cF, .int .u64 0, .slice x.aR 0 x.cR]
/-- A slice reads as this list. -/
def Sl {α : Type} (E : El α) (W : World) (a : Option Addr) (L : List α) : Prop := ∃ g off, (L.length ≠ 0 → a = some ⟨g, off, none⟩) ∧ E.R W g off L
section
variable {α : Type} {E : El α} {W W' : World} {a : Option Addr} {L : List α}
theorem Sl.bel (h : Sl E W a L) (hb : Bel W W') : Sl E W' a L := by
  obtain ⟨g, off, h1, h2⟩ := h
  exact ⟨g, off, h1, h2.bel hb⟩
theorem Sl.nil (E : El α) (W : World) (a : Option Addr) : Sl E W a [] := ⟨0, 0, fun h => absurd rfl h, fun j hj => by simp at hj⟩
theorem Sl.of {base n cap : Nat} (h : E.O base W (.slice a n cap) L) : Sl E W a L ∧ n = L.length ∧ L.length ≤ cap := by
  obtain ⟨a', c', g, e, h1, h2, h3⟩ := h.shape
  cases e
  exact ⟨⟨g, 0, h1, h2⟩, rfl, h3⟩
theorem Sl.below {B : Nat} (h : Sl E W a L) (hb : Below B W W') (hB : ∀ g off, a = some ⟨g, off, none⟩ → g < B) : Sl E W' a L := by
  obtain ⟨g, off, h1, h2⟩ := h
  refine ⟨g, off, h1, fun j hj c u hu => ?_⟩
  have := hB g off (h1 (by omega))
  exact (Below.cell hb this).trans (h2 j hj c u hu)
end
/-- A member as a value: its lists read as they are. -/
structure Pw (W : World) (n : Nat) (s : PP) (x : Px) : Prop where
  m : Sl E3 W x.aM (mem n)
  b : Sl E3 W x.aB (mem n)
  l : Sl E69 W x.aL s.log
  v : Sl E3 W x.aV s.votes
  f : Sl E65 W x.aF s.fol
theorem Pw.bel {W W' : World} {n : Nat} {s : PP} {x : Px} (h : Pw W n s x) (hb : Bel W W') : Pw W' n s x := ⟨h.m.bel hb, h.b.bel hb, h.l.bel hb, h.v.bel hb, h.f.bel hb⟩
end Go.Proofs.YtgofdkheffoilaaGreatDoor
