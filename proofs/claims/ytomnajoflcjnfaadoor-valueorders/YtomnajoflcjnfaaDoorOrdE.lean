/- What slices.Compact at values returns; for every row. -/
import Derived.Test.YtomnajoflcjnfaaDoorOrdD
import Derived.Shelf.RegionOpenPlain
import Derived.WalkKit
import Derived.Deep.LoopGhost
import Derived.Deep.Draws
import Derived.Lib.Walk
import Derived.Sort.WalkB12
import Derived.Lib.SliceRun
namespace Go.Proofs.YtomnajoflcjnfaaDoor
open Go.RowKit Go.Sort Go.Lib Go.Shelf
/-- What the walks ask of a program's types. -/
structure PF (P : Program) : Prop where
  mixed : P.follows .mixedOrders = true
  t0 : P.underlying 0 = some (TypeDesc.tuple #[])
  a0 : ∀ w, (isAgg 0).run P w = .ok false w
  z0 : ∀ w, (Go.sizeOf 0).run P w = .ok 1 w
  v0 : ∀ w, (zeroValue 0).run P w = .ok (Value.tuple #[]) w
  t3 : P.underlying 3 = some (TypeDesc.int IntKind.i64)
  a3 : ∀ w, (isAgg 3).run P w = .ok false w
  z3 : ∀ w, (Go.sizeOf 3).run P w = .ok 1 w
  v3 : ∀ w, (zeroValue 3).run P w = .ok (Value.int IntKind.i64 0) w
  t4 : P.underlying 4 = some (TypeDesc.bool)
  a4 : ∀ w, (isAgg 4).run P w = .ok false w
  z4 : ∀ w, (Go.sizeOf 4).run P w = .ok 1 w
  v4 : ∀ w, (zeroValue 4).run P w = .ok (Value.bool false) w
  t42 : P.underlying 42 = some (TypeDesc.slice 25)
  a42 : ∀ w, (isAgg 42).run P w = .ok false w
  z42 : ∀ w, (Go.sizeOf 42).run P w = .ok 1 w
  v42 : ∀ w, (zeroValue 42).run P w = .ok (Value.slice none 0 0) w
theorem pf_tryd : PF Tryd.prog := {
  mixed := by kernel_rfl
  t0 := Tryd.underlying0
  a0 := Tryd.isAgg0
  z0 := Tryd.sizeOf0
  v0 := Tryd.zeroValue0
  t3 := Tryd.underlying3
  a3 := Tryd.isAgg3
  z3 := Tryd.sizeOf3
  v3 := Tryd.zeroValue3
  t4 := Tryd.underlying4
  a4 := Tryd.isAgg4
  z4 := Tryd.sizeOf4
  v4 := Tryd.zeroValue4
  t42 := Tryd.underlying42
  a42 := Tryd.isAgg42
  z42 := Tryd.sizeOf42
  v42 := Tryd.zeroValue42 }
/-- What the walks ask of the values' type: how a value lies, and how two are compared. -/
structure EF (P : Program) (enc : V → List Value) (k : Nat) : Prop where
  aE : ∀ w, (isAgg 25).run P w = .ok true w
  zE : ∀ w, (Go.sizeOf 25).run P w = .ok k w
  k0 : 0 < k
  len : ∀ x, (enc x).length = k
  one : ∀ x, ∀ v ∈ enc x, v.oneCell' = true
  eql : ∀ (x y : V) (w : World), Sem.run P (binOp .eql 25 (.agg (enc x).toArray) (.agg (enc y).toArray)) w = .ok (.bool (decide (x = y))) w
  neq : ∀ (x y : V) (w : World), Sem.run P (binOp .neq 25 (.agg (enc x).toArray) (.agg (enc y).toArray)) w = .ok (.bool (!decide (x = y))) w
  grd : ∀ (op : BinOp) (a b : Operand) (x y : V) (w : World), Sem.run P (eqGuard op 25 a b (.agg (enc x).toArray) (.agg (enc y).toArray)) w = .ok () w
  zero : ∀ w, (zeroValue 25).run P w = .ok (.agg (enc default).toArray) w
theorem ef_tryd : EF Tryd.prog enc5 5 := {
  aE := Tryd.isAgg25
  zE := Tryd.sizeOf25
  k0 := by decide
  len := enc5_len
  one := enc5_one
  eql := eql25
  neq := neq25
  grd := guard25
  zero := Tryd.zeroValue25 }
section
variable {P : Program} {enc : V → List Value} {k : Nat}
theorem run_clearK (F : PF P) (E : EF P enc k) (w : World) (b o n c : Nat) (hn : 0 < n) (hc : ∀ j, j < n * k → (w.cell? ⟨b, o + j, none⟩).isSome = true) (hf : ∀ j, j < n * k → w.frozen? ⟨b, o + j, none⟩ = false) :
    ∃ vs : List Value, vs.length = n * k ∧ ∀ ty, (Builtin.clear_ #[42] ty #[.slice (some ⟨b, o, none⟩) n c]).run P w = .ok (.tuple #[]) (w.setCells b o vs) := by
  have hlen : (Builtin.zeroCells (enc default).toArray n).toList.length = n * k := by simp [Builtin.zeroCells, E.len]
  have hone : ∀ v ∈ (Builtin.zeroCells (enc default).toArray n).toList, v.oneCell' = true := by
    intro v hv
    simp only [Builtin.zeroCells, Array.toList_map, List.mem_map] at hv
    obtain ⟨i, _, rfl⟩ := hv
    have hlt : i % (enc default).length < (enc default).length := Nat.mod_lt _ (by rw [E.len]; exact E.k0)
    refine E.one default _ ?_
    rw [List.size_toArray, getElem!_pos _ _ (by simpa using hlt)]
    simp
  refine ⟨(Builtin.zeroCells (enc default).toArray n).toList, hlen, fun ty => ?_⟩
  have hst := run_storeCells_cells (P := P) b o (Builtin.zeroCells (enc default).toArray n).toList 0 w (by rw [hlen]; simpa using hc) (by rw [hlen]; simpa using hf) hone
  simp only [Nat.add_zero] at hst
  obtain ⟨m, rfl⟩ : ∃ m, n = m + 1 := ⟨n - 1, by omega⟩
  simp [Builtin.clear_, run_underlying F.t42, E.zero, Value.cells, hst]
/-- What lies in the row behind Compact: ahead what is kept. -/
def cpR (enc : V → List Value) (k : Nat) (w : World) (blk off cap : Nat) (d : Array V) (e : Ending) (w' : World) : Prop :=
  e = .returned (.slice (some ⟨blk, off, none⟩) (compactUpTo d d.size).length cap) ∧ ∃ q G, w' = putRow id (Sort.ahead w q) blk off G ∧ G.size = d.size * k ∧ G.toList.take ((compactUpTo d d.size).length * k) = cel enc k (compactUpTo d d.size)
theorem cel_take {d : Array V} {m : Nat} (h : m ≤ d.size) (k0 : 0 < k) : (flatK enc k d).toList.take (m * k) = cel enc k (d.toList.take m) := by
  have hmin : min m d.size = m := Nat.min_eq_left h
  apply List.ext_getElem?
  intro t
  by_cases ht : t < m * k
  · have hq : t / k < m := by rw [Nat.div_lt_iff_lt_mul k0]; exact ht
    have hm : m * k ≤ d.size * k := Nat.mul_le_mul_right k h
    rw [List.getElem?_take_of_lt ht, Array.getElem?_toList, Array.getElem?_eq_getElem (by simp; omega)]
    unfold cel
    rw [Array.getElem?_toList, Array.getElem?_eq_getElem (by simp [hmin]; omega)]
    congr 1
    have e1 := get_flatK enc k d t (by omega)
    have e2 := get_flatK enc k (d.toList.take m).toArray t (by simp [hmin]; omega)
    rw [getElem!_pos _ t (by simp; omega)] at e1
    rw [getElem!_pos _ t (by simp [hmin]; omega)] at e2
    rw [e1, e2]
    congr 2
    rw [getElem!_pos d _ (by omega), getElem!_pos _ _ (by simp; omega)]
    simp
  · rw [List.getElem?_eq_none (by rw [List.length_take, Array.length_toList, size_flatK]; omega), List.getElem?_eq_none (by rw [cel_len]; simp [hmin]; omega)]
theorem cpR.same (hk0 : 0 < k) {w : World} {blk off cap : Nat} {d : Array V} (hH : HoldsK enc k w blk off d) (hall : ∀ j, j < d.size → keeps d j = true) (q : Nat) : cpR enc k w blk off cap d (.returned (.slice (some ⟨blk, off, none⟩) d.size cap)) (w.drewN q) := by
  have e : compactUpTo d d.size = d.toList := by rw [compactUpTo_all d _ hall, range_map_get]
  refine ⟨by rw [e]; simp, q, flatK enc k d, (putRowK_self enc k (Sort.ahead w q) blk off d (holdsK_ahead enc k w q blk off d hH)).symm, by simp, ?_⟩
  rw [e]
  have := cel_take (enc := enc) (k := k) (d := d) (m := d.size) (Nat.le_refl _) hk0
  rw [List.take_of_length_le (l := d.toList) (by simp)] at this
  simpa using this
theorem setMany_take : ∀ (vs : List Value) (s : Nat) (G : Array Value), (setMany G s vs).toList.take s = G.toList.take s
  | [], _, _ => rfl
  | v :: r, s, G => by
    rw [setMany]
    have h := setMany_take r (s + 1) (G.setIfInBounds s v)
    have h2 : ((setMany (G.setIfInBounds s v) (s + 1) r).toList.take (s + 1)).take s = ((G.setIfInBounds s v).toList.take (s + 1)).take s := by rw [h]
    rw [List.take_take, List.take_take, Nat.min_eq_left (Nat.le_succ s)] at h2
    rw [h2]
    simp [List.take_set_of_le]
theorem comp_low {d dk : Array V} {m kk : Nat} (h : CompInv d m kk dk) (hm : m ≤ d.size) : dk.toList.take kk = compactUpTo d m := by
  apply List.ext_getElem?
  intro j
  have hs := h.size
  have hl := h.lt
  by_cases hj : j < kk
  · rw [List.getElem?_take_of_lt hj, h.low j hj, Array.getElem?_toList, getElem!_pos dk j (by omega)]
    exact Array.getElem?_eq_getElem (by omega)
  · rw [List.getElem?_eq_none (by simp; omega), List.getElem?_eq_none (by rw [h.len]; omega)]
theorem lt_mul_k {a b : Nat} (k : Nat) (h : a < b) : a * k + k ≤ b * k := by
  have := Nat.mul_le_mul_right k (show a + 1 ≤ b from h)
  rwa [Nat.add_mul, Nat.one_mul] at this
theorem put_one (hk : ∀ x, (enc x).length = k) (w : World) (blk off : Nat) {d : Array V} {i : Nat} (hi : i < d.size) (x : V) : (putRowK enc k w blk off d).setCells blk (off + i * k) (enc x) = putRowK enc k w blk off (d.setIfInBounds i x) := by
  unfold putRowK
  rw [setCells_putRow _ _ _ _ _ _ (by rw [hk, size_flatK]; exact lt_mul_k k hi), setMany_set hk d i hi x]
set_option maxHeartbeats 4000000 in
set_option maxRecDepth 1000000 in
theorem compact52 (F : PF P) (E : EF P enc k) (F52 : P.funcs[52]? = some Tryd.f52) (blk off cap : Nat) (d : Array V) (w : World) (hH : HoldsK enc k w blk off d) (hsz : d.size ≤ 9223372036854775807) (hcap : d.size ≤ cap) :
    Calls P 52 #[.slice (some ⟨blk, off, none⟩) d.size cap] w fun e w' => cpR enc k w blk off cap d e w' := by
  have mixed := F.mixed; have t0 := F.t0; have a0 := F.a0; have z0 := F.z0; have v0 := F.v0; have t3 := F.t3; have a3 := F.a3; have z3 := F.z3; have v3 := F.v3; have t4 := F.t4; have a4 := F.a4; have z4 := F.z4; have v4 := F.v4; have t42 := F.t42; have a42 := F.a42; have z42 := F.z42; have v42 := F.v42
  have aE := E.aE; have zE := E.zE; have heq := E.eql; have hne := E.neq; have hgd := E.grd
  have HK := hide E.len
  have HK0 := hide E.k0
  have HE := hide E
  have HF := hide F
  have HH := hide hH
  clear hH E F
  by_cases h2 : d.size < 2
  · go_enter F52, Tryd.ntmps52
    go_wp2
    go_ret
    exact cpR.same HK0.out HH.out (fun j hj => keeps_lt_one d j (by omega)) 0
  · go_enter F52, Tryd.ntmps52
    go_wp2
    go_loopg [3] d.size (fun g s3 wr => ∃ kk q : Nat, 1 ≤ kk ∧ kk ≤ d.size ∧ d.size - kk ≤ g ∧ s3 = .int .i64 kk ∧ wr = w.drewN q ∧ Hid (∀ j, j < kk → keeps d j = true))
    case atStart => exact ⟨1, 0, Nat.le_refl _, by omega, by omega, rfl, rfl, hide (keeps_lt_one d)⟩
    case round =>
      obtain ⟨kk, q, hk1, hk, hg, rfl, rfl, A⟩ := hrel
      by_cases hlt : kk < d.size
      · obtain ⟨kp, hkp⟩ : ∃ kp, kk = kp + 1 := ⟨kk - 1, by omega⟩
        have hkl : kp < d.size := by omega
        obtain ⟨x, hx⟩ : ∃ x, d[kk]! = x := ⟨_, rfl⟩
        obtain ⟨y, hy⟩ : ∃ y, d[kp]! = y := ⟨_, rfl⟩
        have g1 : ∀ m, Sem.run P (loadCellsFrom ⟨blk, off + kk * k, none⟩ 0 k #[]) ((w.drewN q).drewN m) = .ok (enc x).toArray ((w.drewN q).drewN m) := fun m => by
          rw [← hx]; exact run_loadCellsFrom_list P _ _ _ k (HK.out _) (HoldsK.cells (show HoldsK enc k ((w.drewN q).drewN m) blk off d from HH.out) HK.out (by omega))
        have g2 : ∀ m, Sem.run P (loadCellsFrom ⟨blk, off + kp * k, none⟩ 0 k #[]) ((w.drewN q).drewN m) = .ok (enc y).toArray ((w.drewN q).drewN m) := fun m => by
          rw [← hy]; exact run_loadCellsFrom_list P _ _ _ k (HK.out _) (HoldsK.cells (show HoldsK enc k ((w.drewN q).drewN m) blk off d from HH.out) HK.out (by omega))
        have e1 : IntKind.i64.wrap ((kk : Int) - 1) = (kp : Int) := by rw [IntKind.wrap_i64]; omega
        have B := hide (And.intro hx (And.intro hy hkp))
        clear hx hy hkp
        generalize hwq : w.drewN q = wq at g1 g2 ⊢
        by_cases hdup : x = y
        · subst hdup
          go_wp2_with fail
          go_quiet_o (fail)
          go_wp2_with fail
          clear g1 g2
          have HW := hide hwq
          clear hwq
          go_loopg [3, 5] d.size (fun g s3 s5 wr => ∃ (m3 k2 q2 : Nat) (dk : Array V), s3 = .int .i64 m3 ∧ s5 = .int .i64 k2 ∧ 1 ≤ k2 ∧ kk + k2 ≤ d.size ∧ d.size - (kk + k2) ≤ g ∧ wr = putRowK enc k (Sort.ahead w q2) blk off dk ∧ CompInv d (kk + k2) m3 dk)
          case atStart =>
            refine ⟨kk, 1, q + nq, d, rfl, rfl, Nat.le_refl _, by omega, by omega, ?_, CompInv.start A.out (keeps_neg (by omega) ?_)⟩
            · rw [← HW.out, World.drewN_drewN]
              exact (putRowK_self enc k (Sort.ahead w (q + nq)) blk off d (holdsK_ahead enc k w (q + nq) blk off d HH.out)).symm
            · have h := B.out
              rw [h.1, show kk - 1 = kp by omega, h.2.1]
          case round =>
            obtain ⟨m3, k2, q2, dk, rfl, rfl, h1, hle, hg2, hwr, hI⟩ := hrel
            have hkk := hI.lt
            have hds := hI.size
            have hHk : HoldsK enc k wr blk off dk := by rw [hwr]; exact holdsK_putRowK enc k _ blk off d dk (holdsK_ahead enc k w q2 blk off d HH.out) hds
            have W2 := hide hwr
            have I2 := hide hI
            clear hwr
            by_cases hlt2 : kk + k2 < d.size
            · obtain ⟨kq, hkq⟩ : ∃ kq, k2 = kq + 1 := ⟨k2 - 1, by omega⟩
              obtain ⟨x2, hx2⟩ : ∃ x, d[kk + k2]! = x := ⟨_, rfl⟩
              obtain ⟨y2, hy2⟩ : ∃ y, d[kk + kq]! = y := ⟨_, rfl⟩
              have ex : dk[kk + k2]! = x2 := by rw [hI.high (kk + k2) (by omega), hx2]
              have ey : dk[kk + kq]! = y2 := by rw [hI.high (kk + kq) (by omega), hy2]
              have g1 : ∀ m, Sem.run P (loadCellsFrom ⟨blk, off + kk * k + k2 * k, none⟩ 0 k #[]) (wr.drewN m) = .ok (enc x2).toArray (wr.drewN m) := fun m => by
                rw [← ex, Nat.add_assoc, ← Nat.add_mul]; exact run_loadCellsFrom_list P _ _ _ k (HK.out _) (HoldsK.cells (show HoldsK enc k (wr.drewN m) blk off dk from hHk) HK.out (by omega))
              have g2 : ∀ m, Sem.run P (loadCellsFrom ⟨blk, off + kk * k + kq * k, none⟩ 0 k #[]) (wr.drewN m) = .ok (enc y2).toArray (wr.drewN m) := fun m => by
                rw [← ey, Nat.add_assoc, ← Nat.add_mul]; exact run_loadCellsFrom_list P _ _ _ k (HK.out _) (HoldsK.cells (show HoldsK enc k (wr.drewN m) blk off dk from hHk) HK.out (by omega))
              have e2 : IntKind.i64.wrap ((k2 : Int) - 1) = (kq : Int) := by rw [IntKind.wrap_i64]; omega
              have s1 : ∀ m, Sem.run P (storeCells ⟨blk, off + m3 * k, none⟩ (enc x2) 0) (wr.drewN m) = .ok () ((wr.drewN m).setCells blk (off + m3 * k) (enc x2)) := fun m =>
                stores_of_holds P (show HoldsK enc k (wr.drewN m) blk off dk from hHk) (m3 * k) _ (by rw [HK.out, size_flatK]; exact lt_mul_k k (by omega)) (HE.out.one _)
              have hl2 : (enc x2).length = k := HK.out _
              have C := hide (And.intro hx2 (And.intro hy2 hkq))
              have hkq2 : kk + kq < d.size := by omega
              have hkq3 : (kq : Int) < ((d.size - kk : Nat) : Int) := by omega
              clear hx2 hy2 hkq ex ey hHk hI
              by_cases huv : x2 = y2
              · subst huv
                go_wp2_with fail
                go_quiet_o (fail)
                go_wp2_with fail
                go_roundg (d.size - (kk + (k2 + 1)))
                case measure => omega
                case rel =>
                  refine ⟨m3, k2 + 1, q2 + nq, dk, rfl, by go_num, by omega, by omega, Nat.le_refl _, ?_, I2.out.skip (keeps_neg (by omega) ?_)⟩
                  · rw [W2.out]; exact putRowK_drewN enc k w q2 nq blk off dk
                  · have h := C.out
                    rw [h.1, show kk + k2 - 1 = kk + kq by omega, h.2.1]
              · have hdf2 : decide (x2 = y2) = false := decide_eq_false huv
                go_wp2_with fail
                go_quiet_o (fail)
                go_wp2_with fail
                go_roundg (d.size - (kk + (k2 + 1)))
                case measure => omega
                case rel =>
                  refine ⟨m3 + 1, k2 + 1, q2 + nq, dk.setIfInBounds m3 x2, by go_num, by go_num, by omega, by omega, Nat.le_refl _, ?_, ?_⟩
                  · rw [W2.out, putRowK_drewN enc k w q2 nq blk off dk]
                    exact put_one HK.out _ _ _ (show m3 < dk.size by omega) _
                  · have h := C.out
                    have hh := I2.out.keep hlt2 (keeps_pos (by rw [h.1, show kk + k2 - 1 = kk + kq by omega, h.2.1]; exact huv))
                    rw [h.1] at hh
                    exact hh
            · have hend : kk + k2 = d.size := by omega
              have hm3 : m3 < d.size := by omega
              have hsub : (d.size - m3) * k + m3 * k = d.size * k := by rw [← Nat.add_mul]; congr 1; omega
              obtain ⟨vs, hvl, hcl⟩ := run_clearK HF.out HE.out wr blk (off + m3 * k) (d.size - m3) (cap - m3) (by omega)
                (fun j hj => by rw [Nat.add_assoc, (hHk (m3 * k + j) (by rw [size_flatK, hds]; omega)).1]; rfl)
                (fun j hj => by rw [Nat.add_assoc]; exact (hHk (m3 * k + j) (by rw [size_flatK, hds]; omega)).2)
              have HV := hide hvl
              have HS := hide hsub
              clear hHk hI hvl hsub
              go_wp2_with fail
              go_ret
              have hI := I2.out
              rw [hend] at hI
              have hvl := HV.out
              have hsub := HS.out
              refine ⟨by rw [hI.len]; rfl, q2, setMany (flatK enc k dk) (m3 * k) vs, ?_, by rw [size_setMany, size_flatK, hds], ?_⟩
              · rw [W2.out]
                exact setCells_putRow _ _ _ _ _ _ (by rw [size_flatK, hds]; omega)
              · rw [hI.len, setMany_take, cel_take (by omega) HK0.out, comp_low hI (Nat.le_refl _)]
        · have hdf : decide (x = y) = false := decide_eq_false hdup
          go_wp2_with fail
          go_quiet_o (fail)
          go_wp2_with fail
          go_roundg (d.size - (kk + 1))
          case measure => omega
          case rel =>
            refine ⟨kk + 1, q + nq, by omega, by omega, Nat.le_refl _, by go_num, by rw [← hwq, World.drewN_drewN], hide (fun j hj => ?_)⟩
            by_cases e : j = kk
            · subst e
              refine keeps_pos ?_
              have h := B.out
              rw [h.1, show j - 1 = kp by omega, h.2.1]; exact hdup
            · exact A.out j (by omega)
      · have hke : kk = d.size := by omega
        subst hke
        go_wp2_with fail
        go_ret
        exact cpR.same HK0.out HH.out A.out q
end
end Go.Proofs.YtomnajoflcjnfaaDoor
