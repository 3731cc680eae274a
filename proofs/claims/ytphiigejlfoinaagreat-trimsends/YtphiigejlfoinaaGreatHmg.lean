/- Messages in general. -/
import Derived.Test.YtphiigejlfoinaaGreatHpe
namespace Go.Proofs.YtphiigejlfoinaaGreat
open Go.RowKit Go.Maps
/-- A message. -/
structure GM where
  kind : Int
  frm : Int
  to : Int
  term : Int
  index : Int
  lterm : Int
  commit : Int
  round : Int
  ok : Bool
  ents : List GE
  mem : List Int
  snap : ByteArray
/-- Where its lists lie. -/
structure GX where
  ea : Option Addr
  ec : Nat
  ls : List (GE × GA)
  ma : Option Addr
  mc : Nat
/-- Its cells. -/
def mg (m : GM) (x : GX) : Array Value := #[.int .u8 m.kind, .int .i64 m.frm, .int .i64 m.to, .int .u64 m.term, .int .u64 m.index, .int .u64 m.lterm, .int .u64 m.commit, .int .u64 m.round, .bool m.ok, .slice x.ea m.ents.length x.ec, .slice x.ma m.mem.length x.mc, .string m.snap]
/-- Its lists are read as they are. -/
structure Gw (W : World) (m : GM) (x : GX) : Prop where
  e : x.ls.map (·.1) = m.ents
  l : Sl EG W x.ea x.ls
  g : Gm W x.ls
  m : Sl E3 W x.ma m.mem
theorem Gw.bel {W W' : World} {m : GM} {x : GX} (h : Gw W m x) (hb : Bel W W') : Gw W' m x := ⟨h.e, h.l.bel hb, h.g.bel hb, h.m.bel hb⟩
theorem mg_one (m : GM) (x : GX) : (mg m x).all (·.oneCell') = true := by simp [mg, Value.oneCell']
theorem szM (m : GM) (x : GX) : (Tryz.prog.info? 68).map (·.size) = some (mg m x).size := by
  rw [show (mg m x).size = 12 from rfl]; kernel_rfl
def gz : GM := ⟨0, 0, 0, 0, 0, 0, 0, 0, false, [], [], ⟨#[]⟩⟩
def gzx : GX := ⟨none, 0, [], none, 0⟩
theorem zeroM (w : World) : (zeroValue 68).run Tryz.prog w = .ok (.agg (mg gz gzx)) w := by
  unfold mg gz gzx
  go_simp
/-- Block b holds this message. -/
structure Mb2 (W : World) (b : Nat) (m : GM) (x : GX) : Prop where
  c0 : W.cell? ⟨b, 0, none⟩ = some (.int .u8 m.kind)
  c1 : W.cell? ⟨b, 1, none⟩ = some (.int .i64 m.frm)
  c2 : W.cell? ⟨b, 2, none⟩ = some (.int .i64 m.to)
  c3 : W.cell? ⟨b, 3, none⟩ = some (.int .u64 m.term)
  c4 : W.cell? ⟨b, 4, none⟩ = some (.int .u64 m.index)
  c5 : W.cell? ⟨b, 5, none⟩ = some (.int .u64 m.lterm)
  c6 : W.cell? ⟨b, 6, none⟩ = some (.int .u64 m.commit)
  c7 : W.cell? ⟨b, 7, none⟩ = some (.int .u64 m.round)
  c8 : W.cell? ⟨b, 8, none⟩ = some (.bool m.ok)
  c9 : W.cell? ⟨b, 9, none⟩ = some (.slice x.ea m.ents.length x.ec)
  c10 : W.cell? ⟨b, 10, none⟩ = some (.slice x.ma m.mem.length x.mc)
  c11 : W.cell? ⟨b, 11, none⟩ = some (.string m.snap)
theorem Mb2.of {W : World} {b : Nat} {m : GM} {x : GX} (h : W.heap[b]? = some (.cells (mg m x) 68)) : Mb2 W b m x := ⟨cell_of h, cell_of h, cell_of h, cell_of h, cell_of h, cell_of h, cell_of h, cell_of h, cell_of h, cell_of h, cell_of h, cell_of h⟩
end Go.Proofs.YtphiigejlfoinaaGreat
