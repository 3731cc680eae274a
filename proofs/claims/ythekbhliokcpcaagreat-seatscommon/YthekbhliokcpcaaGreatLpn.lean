/- Entries that a leader lays behind those of the others: plain. -/
import Derived.Test.YthekbhliokcpcaaGreatPln
namespace Go.Proofs.YthekbhliokcpcaaGreat
/-- A message of any kind that is sent here. -/
structure QM where
  kind : Int
  frm : Int
  to : Int
  term : Int
  index : Nat
  lterm : Int
  commit : Nat
  ok : Bool
  ents : List PE
/-- A message of votes, as any. -/
def PM.q (m : PM) : QM := ⟨m.kind, m.frm, m.to, m.term, m.index.toNat, m.lterm, 0, m.ok, []⟩
def QM.p (m : QM) : PM := ⟨m.kind, m.frm, m.to, m.term, m.index, m.lterm, m.ok⟩
/-- The term of the entry i; of none 0. -/
def tAt (l : List PE) : Nat → Int
  | 0 => 0
  | i + 1 => match l[i]? with | some e => e.t | none => 0
/-- Put where it belongs, the greatest first. -/
def insD (x : Int) : List Int → List Int
  | [] => [x]
  | y :: l => if y ≤ x then x :: y :: l else y :: insD x l
def srtD : List Int → List Int
  | [] => []
  | x :: l => insD x (srtD l)
/-- What more than half of them are at least. -/
def most (l : List Int) : Int := (srtD l).getD (l.length / 2) 0
def PP.have (s : PP) : List Int := s.lastI :: s.fol.map (·.2.2)
/-- To commit what a majority has. -/
def PP.adv (s : PP) : PP := { s with commit := if tAt s.log (most s.have).toNat = s.term then max s.commit (most s.have).toNat else s.commit }
/-- What comes next for a member. -/
def PP.msg (s : PP) (f : Int × Int × Int) : QM := ⟨3, s.id, f.1, s.term, (f.2.1 - 1).toNat, tAt s.log (f.2.1 - 1).toNat, s.commit, false, (s.log.drop (f.2.1 - 1).toNat).take 16⟩
def PP.beat (s : PP) : PP × List QM := if s.idle + 1 < 3 then ({ s with idle := s.idle + 1 }, []) else ({ s with idle := 0 }, s.fol.map s.msg)
def PP.ltick (n : Nat) (s : PP) (draw : Int) : PP × List QM :=
  if (s.tick n draw).1.role = 2 then (if s.role = 2 then (s.tick n draw).1.adv.beat else ((s.tick n draw).1.adv, (s.tick n draw).2.map PM.q)) else ((s.tick n draw).1, (s.tick n draw).2.map PM.q)
def PP.more (s : PP) (d : ByteArray) : PP := { s with log := s.log ++ [⟨s.term, 0, d⟩] }
def PP.prop (s : PP) (d : ByteArray) : PP := (s.more d).adv
def PP.hrd (s : PP) (to : Int) (ok : Bool) (i : Nat) : QM := ⟨4, s.id, to, s.term, i, 0, 0, ok, []⟩
/-- How many entries are there already, behind b. -/
def mt (log : List PE) (b : Nat) : List PE → Nat
  | [] => 0
  | e :: l => match log[b]? with | some x => (if x.t = e.t then mt log (b + 1) l + 1 else 0) | none => 0
/-- Entries put behind b. -/
def PP.join (s : PP) (b : Nat) (l : List PE) : Option PP :=
  if mt s.log b l = l.length then some s else if b + mt s.log b l + 1 ≤ s.commit then none else some { s with log := s.log.take (b + mt s.log b l) ++ l.drop (mt s.log b l) }
def PP.lay (s : PP) (m : QM) : PP × List QM :=
  if s.log.length < m.index ∨ tAt s.log m.index ≠ m.lterm then (s, [s.hrd m.frm false (min s.log.length (m.index - 1))])
  else match s.join m.index m.ents with
    | none => (s, [])
    | some u => ({ u with commit := max u.commit (min m.commit (m.index + m.ents.length)) }, [u.hrd m.frm true (m.index + m.ents.length)])
def PP.tlay (s : PP) (m : QM) : PP × List QM :=
  if m.term < s.term then (s, [s.hrd m.frm false s.log.length]) else if s.role = 2 then (s, []) else PP.lay { s.down m.term with lead := m.frm, idle := 0 } m
def PP.setF (s : PP) (f : Int × Int × Int) : PP := { s with fol := s.fol.map fun g => if g.1 = f.1 then f else g }
def PP.theard (s : PP) (m : QM) : PP × List QM :=
  if m.term = s.term then
    match s.fol.find? (fun g => g.1 == m.frm) with
    | none => (s, [])
    | some f => if m.ok then
        (let mm := max f.2.2 (min (m.index : Int) s.log.length)
        ((s.setF (f.1, mm + 1, mm)).adv, if (s.log.length : Int) < mm + 1 then [] else [(s.setF (f.1, mm + 1, mm)).adv.msg (f.1, mm + 1, mm)]))
      else
        (let nx := max (f.2.2 + 1) (min (f.2.1 - 1) (m.index + 1))
        (s.setF (f.1, nx, f.2.2), [(s.setF (f.1, nx, f.2.2)).msg (f.1, nx, f.2.2)]))
  else (s, [])
def PP.rais (s : PP) (t : Int) : PP := if s.term < t then s.down t else s
def PP.ltake (s : PP) (m : QM) : PP × List QM := if m.kind = 3 then (s.rais m.term).tlay m else (s.rais m.term).theard m
end Go.Proofs.YthekbhliokcpcaaGreat
