/- slices.Insert at numbers, laid for this program; of a row that is owned. seats: what Add and Remove hand to change. seats.Busy; seats.change where it answers an error; of any member. -/
import Derived.Shelf.Spec.SlicesInsert
import Derived.Shelf.Spec.SlicesInsertGrow
import Derived.Test.YthekbhliokcpcaaGreatNonc
import Derived.Test.YthekbhliokcpcaaGreatEle
import Derived.Test.YthekbhliokcpcaaGreatNiv
namespace Go.Proofs
open Go.Shelf
def Tryz.laysNm221_ren : Go.Shelf.Ren := ⟨fun | 21 => 84 | 27 => 139 | 28 => 140 | 35 => 183 | 39 => 220 | n => n, fun | 22 => 22 | 3 => 3 | 4 => 4 | 0 => 0 | n => n, fun | n => n⟩
theorem Tryz.laysNm221 : Go.Proofs.Lays2.n21 Tryz.prog Tryz.laysNm221_ren := {
  mixed := by kernel_rfl
  f21 := Tryz.func84.trans (congrArg some (by kernel_rfl))
  f27 := Tryz.func139.trans (congrArg some (by kernel_rfl))
  f28 := Tryz.func140.trans (congrArg some (by kernel_rfl))
  f35 := Tryz.func183.trans (congrArg some (by kernel_rfl))
  f39 := Tryz.func220.trans (congrArg some (by kernel_rfl))
  t0 := Tryz.underlying0
  a0 := Tryz.isAgg0
  z0 := Tryz.sizeOf0
  v0 := Tryz.zeroValue0
  t3 := Tryz.underlying3
  a3 := Tryz.isAgg3
  z3 := Tryz.sizeOf3
  v3 := Tryz.zeroValue3
  t4 := Tryz.underlying4
  a4 := Tryz.isAgg4
  z4 := Tryz.sizeOf4
  v4 := Tryz.zeroValue4
  t22 := Tryz.underlying22
  a22 := Tryz.isAgg22
  z22 := Tryz.sizeOf22
  v22 := Tryz.zeroValue22
  i3 := by kernel_rfl }
end Go.Proofs
namespace Go.Proofs.YthekbhliokcpcaaGreat
open Go.RowKit Go.Maps Go.Sort
/-- A row with all its room. -/
theorem own_full {base : Nat} {W : World} {g n c : Nat} {l : List Int} (h : E3.O base W (.slice (some ⟨g, 0, none⟩) n c) l) : n = l.length ∧ n ≤ c ∧ c ≤ maxLen ∧ base ≤ g ∧ ∃ cur : Array Value, W.heap[g]? = some (.cells cur 3) ∧ cur.size = c ∧ cur.toList.take n = l.map (Value.int .i64) ∧ W.ownsRow base 3 1 (.slice (some ⟨g, 0, none⟩) c c) c cur.toList := by
  have hn : n = l.length := by
    obtain ⟨a', c', g', e, _⟩ := h.shape
    injection e with _ e2
  rcases h.2 with ⟨h1, _⟩ | ⟨g', cap, cur, e, h1, h2, h3, h4, h5, h6⟩
  · cases h1
  · injection e with e1 e2 e3
    injection e1 with e1
    injection e1 with e1
    subst e1; subst e3; subst hn
    have hs : cur.size = c := by rw [h5]; exact Nat.mul_one _
    refine ⟨rfl, h3, h4, h1, cur, h2, hs, ?_, ⟨by rw [Array.length_toList, hs]; omega, Or.inr ⟨g, c, cur, rfl, h1, h2, Nat.le_refl _, h4, h5, ?_⟩⟩⟩
    · rw [← E3_fl, ← h6]; show _ = List.take (l.length * 1) _; rw [Nat.mul_one]
    · rw [List.take_of_length_le]; rw [Array.length_toList, hs]; omega
theorem own_part {base : Nat} {W : World} {g c m : Nat} {F : List Value} {l : List Int} (h : W.ownsRow base 3 1 (.slice (some ⟨g, 0, none⟩) c c) c F) (hm : m = l.length) (hmc : m ≤ c) (hF : F.take m = l.map (Value.int .i64)) : E3.O base W (.slice (some ⟨g, 0, none⟩) m c) l := by
  subst hm
  rcases h.2 with ⟨h1, _⟩ | ⟨g', cap, cur, e, h1, h2, h3, h4, h5, h6⟩
  · cases h1
  · injection e with e1 e2 e3
    injection e1 with e1
    injection e1 with e1
    subst e1; subst e3
    refine ⟨by rw [E3_fl, List.length_map]; exact (Nat.mul_one _).symm, Or.inr ⟨g, c, cur, rfl, h1, h2, hmc, h4, h5, ?_⟩⟩
    rw [E3_fl, ← hF, ← h6, List.take_take]
    show List.take (l.length * 1) _ = _
    congr 1
    omega
theorem zc_len (v : Value) (hv : v.cells = #[v]) (k : Nat) : (Builtin.zeroCells v.cells k).size = k := by
  rw [hv]; simp [Builtin.zeroCells]
def insAt (l : List Int) (i : Nat) (z : Int) : List Int := l.take i ++ z :: l.drop i
theorem insAt_len {l : List Int} {i : Nat} {z : Int} : (insAt l i z).length = l.length + 1 := by
  unfold insAt
  rw [List.length_append, List.length_cons, List.length_take, List.length_drop]
  omega
/-- What the two copies make. -/
theorem ins_cells {F cs : List Value} {n i : Nat} {z : Value} (hF : F.take n = cs) (hi : i ≤ n) (hn : n + 1 ≤ F.length) : (setL (setL F (i + 1) (cs.drop i)) i [z]).take (n + 1) = cs.take i ++ z :: cs.drop i := by
  have hcl : cs.length = n := by rw [← hF, List.length_take]; omega
  have hdl : (cs.drop i).length = n - i := by rw [List.length_drop, hcl]
  have e1 : setL F (i + 1) (cs.drop i) = F.take (i + 1) ++ (cs.drop i ++ F.drop (n + 1)) := by
    rw [setL_eq _ _ _ (by rw [hdl]; omega), hdl, show i + 1 + (n - i) = n + 1 by omega]
    simp
  rw [e1]
  have hl1 : (F.take (i + 1)).length = i + 1 := by rw [List.length_take]; omega
  rw [setL_eq _ _ _ (by rw [List.length_append, hl1, List.length_append, hdl, List.length_drop]; simp only [List.length_cons, List.length_nil]; omega)]
  have e2 : (F.take (i + 1) ++ (cs.drop i ++ F.drop (n + 1))).take i = cs.take i := by
    rw [List.take_append_of_le_length (by rw [hl1]; omega), List.take_take, ← hF, List.take_take]
    congr 1
    omega
  have e3 : (F.take (i + 1) ++ (cs.drop i ++ F.drop (n + 1))).drop (i + [z].length) = cs.drop i ++ F.drop (n + 1) := by
    rw [show i + [z].length = (F.take (i + 1)).length by rw [hl1]; rfl]
    exact List.drop_left
  rw [e2, e3]
  have hti : (cs.take i).length = i := by rw [List.length_take, hcl]; omega
  rw [show cs.take i ++ [z] ++ (cs.drop i ++ F.drop (n + 1)) = (cs.take i ++ z :: cs.drop i) ++ F.drop (n + 1) by simp]
  exact List.take_left' (by rw [List.length_append, List.length_cons, hti, hdl]; omega)
set_option maxRecDepth 100000 in
set_option maxHeartbeats 2000000 in
theorem insert_g {W : World} {base : Nat} {a : Option Addr} {c : Nat} {l : List Int} {i B : Nat} {z : Int} (h : E3.O base W (.slice a l.length c) l) (hb : base ≤ W.heap.size) (hi : i ≤ l.length) (hB : W.heap[B]? = some (.cells #[Value.int .i64 z] 3)) (hne : ∀ k, (Value.slice a l.length c).ownBlock = some k → k ≠ B) (hl : l.length ≤ 1000000) : Calls Tryz.prog 84 #[.slice a l.length c, .int .i64 i, .slice (some ⟨B, 0, none⟩) 1 1] W fun e w' => ∃ g c', e = .returned (.slice (some ⟨g, 0, none⟩) (l.length + 1) c') ∧ E3.O base w' (.slice (some ⟨g, 0, none⟩) (l.length + 1) c') (insAt l i z) ∧ W.grownBy w' (Value.slice a l.length c).ownBlock := by
  have hvs : ∀ j v, [Value.int .i64 z][j]? = some v → W.cell? ⟨B, 0 + j, none⟩ = some v := fun j v hj => by
    rw [Nat.zero_add, cell_of hB]
    simpa using hj
  have h1v : ∀ v ∈ [Value.int .i64 z], v.oneCell' = true := fun v hv => by rw [List.mem_singleton.1 hv]; rfl
  have hshape : (a = none ∧ l.length = 0 ∧ c = 0) ∨ ∃ g, a = some ⟨g, 0, none⟩ := by
    rcases h.2 with ⟨h1, h2⟩ | ⟨g', cap, cur, e, _⟩
    · injection h1 with e1 e2 e3; exact Or.inl ⟨e1, e2, e3⟩
    · injection e with e1 e2 e3; exact Or.inr ⟨g', e1⟩
  have hbig : (l.length + 1) * 8 ≤ 140737488355328 := by omega
  have hG1 := grownCap_ge W (l.length + 1) c 3
  have hG2 := grownCap_le_maxLen W (l.length + 1) c 3 (by unfold maxLen; omega)
  rcases hshape with ⟨rfl, hl0, rfl⟩ | ⟨g, rfl⟩
  · have hln : l = [] := List.eq_nil_of_length_eq_zero hl0
    subst hln
    obtain rfl : i = 0 := by simpa using hi
    refine (Any2.slices_Insert_int_end_grow Tryz.laysNm221 none 0 0 B 0 1 1 [] [Value.int .i64 z] W (by omega) (by omega) (by omega) (by omega) rfl rfl (fun _ => rfl) (fun a ha => by cases ha) hvs h1v).mono ?_
    rintro e w' ⟨rfl, rfl⟩
    refine ⟨_, _, rfl, ⟨rfl, Or.inr ⟨W.heap.size, _, _, rfl, hb, at_new W.drew _, hG1, hG2, ?_, ?_⟩⟩, ⟨rfl, rfl, rfl, (Bel.refl W).drew.alloc _ |>.size, fun k hk _ => ((Bel.refl W).drew.alloc _).block k hk⟩⟩
    · rw [Array.size_append, zc_len _ rfl]
      show 1 + (_ - 1) = _ * 1
      have : 0 + 1 ≤ grownCap W (0 + 1) 0 3 := hG1
      show 1 + (grownCap W (0 + 1) 0 3 - (0 + 1)) = grownCap W (0 + 1) 0 3 * 1
      omega
    · rw [Array.toList_append]; rfl
  · obtain ⟨-, hnc, hcm, hbg, cur, hcur, hcs, htk, hfull⟩ := own_full h
    have hkB : g ≠ B := hne g rfl
    have hcl : cur.toList.length = c := by rw [Array.length_toList, hcs]
    have hcell : ∀ j v, (l.map (Value.int .i64))[j]? = some v → W.cell? ⟨g, 0 + j, none⟩ = some v := fun j v hj => by
      rw [Nat.zero_add, cell_of hcur]
      have hjl : j < l.length := by have := (List.getElem?_eq_some_iff.1 hj).1; simpa using this
      rw [← htk, List.getElem?_take, if_pos hjl, Array.getElem?_toList] at hj
      exact hj
    have h1c : ∀ v ∈ l.map (Value.int .i64), v.oneCell' = true := fun v hv => by
      obtain ⟨x, _, rfl⟩ := List.mem_map.1 hv
      rfl
    have hsome : ∀ j, j < c → (W.cell? ⟨g, 0 + j, none⟩).isSome = true := fun j hj => by
      rw [Nat.zero_add, cell_of hcur, Array.getElem?_eq_getElem (by omega)]; rfl
    have hfz : ∀ p, W.frozen? ⟨g, p, none⟩ = false := fun p => free_row hcur
    have hmapd : (l.map (Value.int .i64)).drop i = (l.drop i).map (Value.int .i64) := by rw [List.map_drop]
    have hfin : (insAt l i z).map (Value.int .i64) = (l.map (Value.int .i64)).take i ++ Value.int .i64 z :: (l.map (Value.int .i64)).drop i := by
      unfold insAt
      rw [List.map_append, List.map_cons, List.map_take, List.map_drop]
    by_cases hin : i = l.length
    · subst hin
      by_cases hroom : l.length + 1 ≤ c
      · refine (Any2.slices_Insert_int_end_room Tryz.laysNm221 g 0 l.length c B 0 1 1 [Value.int .i64 z] W (by omega) hroom (by unfold maxLen at hcm; omega) rfl (fun j hj => by rw [Nat.zero_add]; have := hsome (l.length + j) (by omega); rwa [Nat.zero_add] at this) (fun j hj => hfz _) hvs h1v).mono ?_
        rintro e w' ⟨rfl, rfl⟩
        refine ⟨g, c, rfl, ?_, ?_⟩
        · have h9 := own_setCells [Value.int .i64 z] (0 + l.length) _ _ hfull
          refine own_part h9 insAt_len.symm hroom ?_
          rw [setL_eq _ _ _ (by rw [hcl]; simp only [List.length_cons, List.length_nil]; omega), Nat.zero_add, htk, hfin, List.drop_of_length_le (by simp : (l.map (Value.int .i64)).length ≤ l.length), List.take_of_length_le (by simp : (l.map (Value.int .i64)).length ≤ l.length)]
          exact List.take_left' (by simp)
        · have hc9 := ch_setCells g [Value.int .i64 z] (0 + l.length) W
          exact ⟨hc9.os, hc9.tape, hc9.output, hc9.size, fun k hk hne => hc9.block k hk (fun e => hne (by rw [e]; rfl))⟩
      · refine (Any2.slices_Insert_int_end_grow Tryz.laysNm221 (some ⟨g, 0, none⟩) l.length c B 0 1 1 (l.map (Value.int .i64)) [Value.int .i64 z] W (by omega) hnc (by omega) hbig (by simp) rfl (fun e => by cases e) (fun a ha j v hj => by cases ha; rw [Addr.add_lit]; exact hcell j v hj) hvs h1v).mono ?_
        rintro e w' ⟨rfl, rfl⟩
        refine ⟨_, _, rfl, ⟨?_, Or.inr ⟨W.heap.size, _, _, by rw [insAt_len]; rfl, hb, at_new W.drew _, by rw [insAt_len]; exact hG1, hG2, ?_, ?_⟩⟩, ⟨rfl, rfl, rfl, ((Bel.refl W).drew.alloc _).size, fun k hk _ => ((Bel.refl W).drew.alloc _).block k hk⟩⟩
        · rw [E3_fl, List.length_map, insAt_len]; exact (Nat.mul_one _).symm
        · rw [Array.size_append, zc_len _ rfl]
          show (l.map (Value.int .i64) ++ [Value.int .i64 z]).length + (grownCap W (l.length + 1) c 3 - (l.length + 1)) = grownCap W (l.length + 1) c 3 * 1
          rw [List.length_append, List.length_map]
          show l.length + 1 + _ = _
          omega
        · rw [E3_fl, hfin, Array.toList_append]
          show List.take ((insAt l l.length z).length * 1) ((l.map (Value.int .i64) ++ [Value.int .i64 z]) ++ _) = _
          rw [insAt_len]
          rw [List.drop_of_length_le (by simp : (l.map (Value.int .i64)).length ≤ l.length), List.take_of_length_le (by simp : (l.map (Value.int .i64)).length ≤ l.length)]
          exact List.take_left' (by simp)
    · by_cases hroom : l.length + 1 ≤ c
      · refine (Any2.slices_Insert_int_shift Tryz.laysNm221 g 0 l.length c i B 0 1 1 (l.map (Value.int .i64)) [Value.int .i64 z] W (by omega) (by omega) hroom (by unfold maxLen at hcm; omega) (Ne.symm hkB) (by simp) rfl hcell (fun j hj => hsome j (by omega)) (fun j hj => hfz _) hvs h1c h1v 3 3 1 c (by unfold World.shape?; rw [hB]; rfl) (by unfold World.shape?; rw [hcur]; show some _ = some _; rw [hcs]) (by omega) (free_row hB) (free_row hB)).mono ?_
        rintro e w' ⟨rfl, rfl⟩
        have hd : E3.O base W.drew (.slice (some ⟨g, 0, none⟩) l.length c) l := h.bel (Bel.refl W).drew
        refine ⟨g, c, rfl, ?_, ?_⟩
        · have h8 := own_setCells ((l.map (Value.int .i64)).drop i) (0 + (i + 1)) _ _ (show W.drew.ownsRow base 3 1 (.slice (some ⟨g, 0, none⟩) c c) c cur.toList from hfull)
          have h9 := own_setCells [Value.int .i64 z] (0 + i) _ _ h8
          refine own_part h9 insAt_len.symm hroom ?_
          rw [Nat.zero_add, Nat.zero_add, hfin]
          exact ins_cells htk hi (by rw [hcl]; exact hroom)
        · have hc8 := ch_setCells g ((l.map (Value.int .i64)).drop i) (0 + (i + 1)) W.drew
          have hc9 := ((Bel.refl W).drew.ch (fun k => k = g)).trans (hc8.trans (ch_setCells g [Value.int .i64 z] (0 + i) _) (fun k hk => Or.inl hk)) (fun k hk => Or.inl hk)
          exact ⟨hc9.os, hc9.tape, hc9.output, hc9.size, fun k hk hne => hc9.block k hk (fun e => hne (by rw [e]; rfl))⟩
      · refine (Any2.slices_Insert_int_grow Tryz.laysNm221 g 0 l.length c i B 0 1 1 (l.map (Value.int .i64)) [Value.int .i64 z] W (by omega) (by omega) hnc (by omega) hbig (by simp) rfl hcell hvs h1c h1v).mono ?_
        rintro e w' ⟨rfl, rfl⟩
        obtain ⟨G, hG⟩ : ∃ G, G = grownCap W (l.length + 1) c 3 := ⟨_, rfl⟩
        rw [← hG] at hG1 hG2
        have hcut : c = l.length := by omega
        obtain ⟨N, hN⟩ : ∃ N : Array Value, N = ((l.map (Value.int .i64)).take i).toArray ++ Builtin.zeroCells (Value.int .i64 0).cells (l.length + 1 - i) ++ Builtin.zeroCells (Value.int .i64 0).cells (G - (l.length + 1)) := ⟨_, rfl⟩
        have hNs : N.size = G := by
          rw [hN, Array.size_append, Array.size_append, zc_len _ rfl, zc_len _ rfl]
          simp only [List.size_toArray, List.length_take, List.length_map]
          omega
        have hNl0 : N.toList.length = G := by rw [Array.length_toList, hNs]
        have h7 : ((W.alloc (.cells N 3)).drew).ownsRow base 3 1 (.slice (some ⟨W.heap.size, 0, none⟩) G G) G N.toList := ⟨by rw [Array.length_toList, hNs]; omega, Or.inr ⟨W.heap.size, G, N, rfl, hb, at_new W _, Nat.le_refl _, hG2, by rw [hNs]; omega, by rw [List.take_of_length_le]; rw [Array.length_toList, hNs]; omega⟩⟩
        have h8 := own_setCells [Value.int .i64 z] i _ _ h7
        have h9 := own_setCells ((l.map (Value.int .i64)).drop i) (i + 1) _ _ (show ((((W.alloc (.cells N 3)).drew).setCells W.heap.size i [Value.int .i64 z]).drew).ownsRow base 3 1 (.slice (some ⟨W.heap.size, 0, none⟩) G G) G _ from h8)
        refine ⟨W.heap.size, G, by rw [hG]; rfl, ?_, ?_⟩
        · have hp := own_part h9 (insAt_len (l := l) (i := i) (z := z)).symm hG1 ?_
          · rw [hN, hG] at hp
            rw [hG]
            exact hp
          · have hdl : ((l.map (Value.int .i64)).drop i).length = l.length - i := by simp
            have htl : ((l.map (Value.int .i64)).take i).length = i := by simp; omega
            have hNl : N.toList.take i = (l.map (Value.int .i64)).take i := by
              rw [hN, Array.toList_append, Array.toList_append, List.append_assoc]
              exact List.take_left' htl
            have hs1 : setL N.toList i [Value.int .i64 z] = (l.map (Value.int .i64)).take i ++ (Value.int .i64 z :: N.toList.drop (i + 1)) := by
              rw [setL_eq _ _ _ (by rw [hNl0]; simp only [List.length_cons, List.length_nil]; omega), hNl]
              simp
            rw [hs1, setL_eq _ _ _ (by rw [List.length_append, htl]; simp only [List.length_cons, List.length_drop, hNl0, List.length_map]; omega), hfin]
            have e1 : ((l.map (Value.int .i64)).take i ++ (Value.int .i64 z :: N.toList.drop (i + 1))).take (i + 1) = (l.map (Value.int .i64)).take i ++ [Value.int .i64 z] := by
              rw [List.take_append, htl, List.take_of_length_le (by rw [htl]; omega), show i + 1 - i = 1 by omega]
              rfl
            rw [e1]
            rw [show (l.map (Value.int .i64)).take i ++ [Value.int .i64 z] ++ (l.map (Value.int .i64)).drop i = (l.map (Value.int .i64)).take i ++ Value.int .i64 z :: (l.map (Value.int .i64)).drop i by simp]
            exact List.take_left' (by rw [List.length_append, List.length_cons, htl, hdl]; omega)
        · have hb1 := ((Bel.refl W).alloc (.cells N 3)).drew
          have hc1 := ch_setCells W.heap.size [Value.int .i64 z] i ((W.alloc (.cells N 3)).drew)
          have hb2 := bel_off hb1 hc1 (Nat.le_refl _)
          have hc2 := ch_setCells W.heap.size ((l.map (Value.int .i64)).drop i) (i + 1) ((((W.alloc (.cells N 3)).drew).setCells W.heap.size i [Value.int .i64 z]).drew)
          have hb3 := bel_off hb2.drew hc2 (Nat.le_refl _)
          rw [hN, hG] at hb3
          exact ⟨hb3.os, hb3.tape, hb3.output, hb3.size, fun k hk _ => hb3.block k hk⟩
end Go.Proofs.YthekbhliokcpcaaGreat
namespace Go.Proofs.YthekbhliokcpcaaGreat
open Go.RowKit Go.Maps Go.Sort
def addB (id : Int) (l : List Int) : Bool := decide (1 ≤ id) && (decide (id ≤ 64) && !decide (id ∈ l))
def remB (id : Int) (l : List Int) : Bool := decide (id ∈ l) && decide (1 < l.length)
set_option maxRecDepth 100000 in
set_option maxHeartbeats 2000000 in
theorem mayAdd_g {W : World} {bi : Nat} {id : Int} {a : Option Addr} {c : Nat} {l : List Int} (hi : W.cell? ⟨bi, 0, none⟩ = some (.int .i64 id)) (h : Sl E3 W a l) (hl : l.length ≤ 1000000) : Calls Tryz.prog 81 #[.slice a l.length c, .pointer (some ⟨bi, 0, none⟩)] W fun e w' => e = .returned (.bool (addB id l)) ∧ w' = W := by
  have HC : Hid (Calls Tryz.prog 82 #[.slice a l.length c, .int .i64 id] W fun e w' => e = .returned (.bool (decide (id ∈ l))) ∧ w' = W) := hide (contains_any h c id (by omega))
  clear h hl
  generalize l.length = n at *
  unfold addB
  cases h1 : decide (1 ≤ id) with
  | false =>
    clear HC
    go_enter Tryz.func81, Tryz.ntmps81
    go_wp2_with fail
    go_ret
    exact ⟨rfl, rfl⟩
  | true =>
    cases h2 : decide (id ≤ 64) with
    | false =>
      clear HC
      go_enter Tryz.func81, Tryz.ntmps81
      go_wp2_with fail
      go_ret
      exact ⟨rfl, rfl⟩
    | true =>
      go_enter Tryz.func81, Tryz.ntmps81
      go_wp2_with (first
        | (go_at_call 82; refine (unhide HC).mono ?_; rintro e w1 ⟨rfl, hw1⟩; rw [hw1]; clear hw1))
      go_ret
      exact ⟨by simp, rfl⟩
set_option maxRecDepth 100000 in
set_option maxHeartbeats 2000000 in
theorem mayRem_g {W : World} {bi : Nat} {id : Int} {a : Option Addr} {c : Nat} {l : List Int} (hi : W.cell? ⟨bi, 0, none⟩ = some (.int .i64 id)) (h : Sl E3 W a l) (hl : l.length ≤ 1000000) : Calls Tryz.prog 86 #[.slice a l.length c, .pointer (some ⟨bi, 0, none⟩)] W fun e w' => e = .returned (.bool (remB id l)) ∧ w' = W := by
  have HC : Hid (Calls Tryz.prog 82 #[.slice a l.length c, .int .i64 id] W fun e w' => e = .returned (.bool (decide (id ∈ l))) ∧ w' = W) := hide (contains_any h c id (by omega))
  clear h hl
  unfold remB
  have hn : decide (1 < l.length) = decide ((1 : Int) < (l.length : Int)) := by
    by_cases h : 1 < l.length
    · rw [decide_eq_true h, decide_eq_true (by omega)]
    · rw [decide_eq_false h, decide_eq_false (by omega)]
  rw [hn]
  generalize l.length = n at *
  clear hn
  cases h1 : decide (id ∈ l) with
  | false =>
    rw [h1] at HC
    go_enter Tryz.func86, Tryz.ntmps86
    go_wp2_with (first
      | (go_at_call 82; refine (unhide HC).mono ?_; rintro e w1 ⟨rfl, hw1⟩; rw [hw1]; clear hw1))
    go_ret
    exact ⟨rfl, rfl⟩
  | true =>
    rw [h1] at HC
    go_enter Tryz.func86, Tryz.ntmps86
    go_wp2_with (first
      | (go_at_call 82; refine (unhide HC).mono ?_; rintro e w1 ⟨rfl, hw1⟩; rw [hw1]; clear hw1))
    go_ret
    exact ⟨by simp, rfl⟩
/-- Where one goes among others. -/
def place (id : Int) (l : List Int) : Nat := l.countP (· < id)
theorem searchAt_g {W : World} {a : Option Addr} {cap : Nat} {M : List Int} (h : Sl E3 W a M) (hr : Ris M) (hl : M.length ≤ 1000000) (x : Int) : Calls Tryz.prog 44 #[.slice a M.length cap, .int .i64 x] W fun e w' => e = .returned (.tuple #[.int .i64 (place x M : Nat), .bool (decide (x ∈ M))]) ∧ Bel W w' := by
  by_cases h0 : M.length = 0
  · have hM : M = [] := List.eq_nil_of_length_eq_zero h0
    subst hM
    refine (Tryz.slices_BinarySearch_int_empty a cap x W).mono ?_
    rintro e w' ⟨rfl, hw⟩
    exact ⟨by simp [place], by rw [hw]; exact Bel.refl _⟩
  · obtain ⟨g, off, hg, hR⟩ := h
    obtain rfl := hg h0
    refine (Tryz.slices_BinarySearch_int g off M.length cap M x W (Nat.le_refl _) (by omega) (fun j hj => ?_) ?_).mono ?_
    · rw [E3_cell hR j hj]; simp [List.getD, List.getElem?_eq_getElem hj]
    · rw [List.take_length]
      exact pw_to hr (fun h => by omega)
    · rintro e w' ⟨rfl, q, hw⟩
      refine ⟨?_, by rw [hw]; exact (Bel.refl _).drewN q⟩
      rw [List.take_length, List.contains_eq_mem]
      rfl
theorem place_le (id : Int) (l : List Int) : place id l ≤ l.length := List.countP_le_length
set_option maxRecDepth 100000 in
set_option maxHeartbeats 2000000 in
theorem toAdd_g {W : World} {base : Nat} {bi : Nat} {id : Int} {a : Option Addr} {c : Nat} {l : List Int} (hi : W.cell? ⟨bi, 0, none⟩ = some (.int .i64 id)) (h : E3.O base W (.slice a l.length c) l) (hb : base ≤ W.heap.size) (hr : Ris l) (hl : l.length ≤ 1000000) : Calls Tryz.prog 83 #[.slice a l.length c, .pointer (some ⟨bi, 0, none⟩)] W fun e w' => ∃ g c', e = .returned (.slice (some ⟨g, 0, none⟩) (l.length + 1) c') ∧ E3.O base w' (.slice (some ⟨g, 0, none⟩) (l.length + 1) c') (insAt l (place id l) id) ∧ W.grownBy w' (Value.slice a l.length c).ownBlock := by
  have HS : Hid (Calls Tryz.prog 44 #[.slice a l.length c, .int .i64 id] W fun e w' => e = .returned (.tuple #[.int .i64 (place id l : Nat), .bool (decide (id ∈ l))]) ∧ Bel W w') := hide (searchAt_g (Sl.of h).1 hr hl id)
  have HI : Hid (∀ w1, Bel W w1 → Calls Tryz.prog 84 #[.slice a l.length c, .int .i64 (place id l : Nat), .slice (some ⟨w1.heap.size, 0, none⟩) 1 1] (w1.alloc (.cells #[.int .i64 id] 3)) fun e w' => ∃ g c', e = .returned (.slice (some ⟨g, 0, none⟩) (l.length + 1) c') ∧ E3.O base w' (.slice (some ⟨g, 0, none⟩) (l.length + 1) c') (insAt l (place id l) id) ∧ (w1.alloc (.cells #[.int .i64 id] 3)).grownBy w' (Value.slice a l.length c).ownBlock) := hide (fun w1 hb1 => by
    have hb2 := hb1.alloc (.cells #[.int .i64 id] 3)
    exact insert_g (h.bel hb2) (Nat.le_trans hb hb2.size) (place_le id l) (at_new w1 _) (fun k hk e => by have h1 := (h.lt hk).2; have h2 := hb1.size; omega) hl)
  clear h hb hr hl
  generalize insAt l (place id l) id = L at *
  generalize place id l = p at *
  generalize l.length = n at *
  generalize decide (id ∈ l) = q at *
  go_enter Tryz.func83, Tryz.ntmps83
  go_wp2_with (first
    | (go_at_call 44; refine (unhide HS).mono ?_; rintro e w1 ⟨rfl, hb1⟩; have z0 := hb1.cell hi; have HB1 := hide hb1; clear hb1)
    | (go_at_call 84; refine ((unhide HI) _ (unhide HB1)).mono ?_; rintro e w2 ⟨g, c', rfl, ho2, hg2⟩; have HO2 := hide (And.intro ho2 hg2); clear ho2 hg2))
  go_ret
  refine ⟨_, _, rfl, (unhide HO2).1, ?_⟩
  have h2 := (unhide HO2).2
  have h1 := (unhide HB1).alloc (.cells #[.int .i64 id] 3)
  exact ⟨h2.os.trans h1.os, h2.tape.trans h1.tape, h2.output.trans h1.output, Nat.le_trans h1.size h2.size, fun k hk hne => (h2.block k (Nat.lt_of_lt_of_le hk h1.size) hne).trans (h1.block k hk)⟩
end Go.Proofs.YthekbhliokcpcaaGreat
namespace Go.Proofs.YthekbhliokcpcaaGreat
open Go.RowKit Go.Maps Go.Sort
set_option maxRecDepth 100000 in
set_option maxHeartbeats 2000000 in
theorem busy_g {W : World} {s : GP} {x : Px} (h : SlG W x.aL s.log) (k : Nat) (hk : k ≤ s.log.length) (hi : s.commit - s.base = k) (hl : s.log.length ≤ 1000000) (hcap : s.log.length ≤ x.cL) : Calls Tryz.prog 36 #[.agg (gc s x)] W fun e w' => e = .returned (.bool s.busy) ∧ Bel W w' := by
  have hal : s.above.length ≤ 1000000 := by unfold GP.above; rw [List.length_drop]; omega
  have HA : Hid (∀ w1, Bel W w1 → Calls Tryz.prog 92 #[.agg (gc s x)] w1 fun e w' => ∃ a' c', e = .returned (.slice a' s.above.length c') ∧ SlG w' a' s.above ∧ Bel w1 w') := hide (fun w1 hb => (above_g (h.bel hb) k hk hi hl hcap).mono (fun e w' ⟨a', c', he, hs, hb'⟩ => ⟨a', c', he, hs.bel hb', hb'⟩))
  have HE : Hid (∀ w1 a c, SlG w1 a s.above → Calls Tryz.prog 91 #[.slice a s.above.length c, .func (.func 90) #[] #[]] w1 fun e w' => e = .returned (.bool (s.above.any seatE)) ∧ Bel w1 w') := hide (fun w1 a c hs => econt_g hs c hal)
  clear h hk hi hl hcap hal
  unfold GP.busy
  generalize s.above.any seatE = q at *
  generalize s.above.length = n at *
  cases hr : (s.role == 2) with
  | false =>
    clear HA HE
    go_enter Tryz.func36, Tryz.ntmps36
    go_wp2_with (first
      | go_skip
      | (refine bx_boxK 31 (.tmp 0) (by exact rfl) (by exact rfl) (gc s x) (by exact rfl) ?_; intro b w0 hr0 hs0 hb0; have y4 := (Bg.of hr0).c4; have HB0 := hide hb0; clear hr0 hs0 hb0)
      | go_guarded)
    go_ret
    exact ⟨rfl, unhide HB0⟩
  | true =>
    go_enter Tryz.func36, Tryz.ntmps36
    go_wp2_with (first
      | go_skip
      | (refine bx_boxK 31 (.tmp 0) (by exact rfl) (by exact rfl) (gc s x) (by exact rfl) ?_; intro b w0 hr0 hs0 hb0; have y4 := (Bg.of hr0).c4; have HR0 := hide hr0; have HB0 := hide hb0; clear hr0 hs0 hb0)
      | (refine bx_ldK 31 (.tmp 1) (by exact rfl) b (by exact rfl) (by exact rfl) (gc s x) _ (unhide HR0) Tryz.underlying31 (Tryz.sizeP _ _) ?_)
      | go_guarded
      | (go_at_call 92; refine ((unhide HA) _ (unhide HB0)).mono ?_; rintro e w1 ⟨a1, c1, rfl, hs1, hb1⟩; have HS1 := hide hs1; replace HB0 := hide ((unhide HB0).trans hb1); clear hb1 hs1)
      | (go_at_call 91; refine ((unhide HE) _ _ _ (unhide HS1)).mono ?_; rintro e w2 ⟨rfl, hb2⟩; replace HB0 := hide ((unhide HB0).trans hb2); clear hb2))
    go_ret
    exact ⟨by simp, unhide HB0⟩
/-- What a change of members answers. -/
def GP.chgE (s : GP) (may : Bool) : Int := if mayG s = false then 2 else if s.role ≠ 2 then 140 else if may = false then 142 else if s.busy || !s.sure then 141 else 0
theorem may_com {s : GP} (h : mayG s = true) : ∃ k : Nat, s.commit - s.base = k ∧ k ≤ s.log.length := by
  have hl := (mayG_num h).2.1
  unfold logB at hl
  simp only [Bool.and_eq_true, decide_eq_true_eq] at hl
  have h1 := hl.2.2.2.2.1
  have h2 := hl.2.2.2.2.2
  have h3 : s.lastI = s.base + s.log.length := rfl
  exact ⟨(s.commit - s.base).toNat, by omega, by omega⟩
set_option maxRecDepth 100000 in
set_option maxHeartbeats 8000000 in
theorem chgAdd_no {W : World} {s : GP} {x : Px} {bi : Nat} {id : Int} (h : Gp W s x) (hz : Gz s x) (hi : W.cell? ⟨bi, 0, none⟩ = some (.int .i64 id)) (hne : s.chgE (addB id s.M) ≠ 0) : Calls Tryz.prog 85 #[.agg (gc s x), .func (.func 81) #[] #[.pointer (some ⟨bi, 0, none⟩)], .func (.func 83) #[] #[.pointer (some ⟨bi, 0, none⟩)]] W fun e w' => e = .returned (.tuple #[.agg (gc g0 y0), .int .u64 0, .int .i64 (s.chgE (addB id s.M))]) ∧ Bel W w' := by
  have H1 : Hid (∀ W', Bel W W' → Calls Tryz.prog 42 #[.agg (gc s x)] W' fun e w' => e = .returned (.int .i64 (if mayG s then 0 else 2)) ∧ Bel W' w') := hide (fun W' hb => may_g (h.bel hb) hz)
  have HM : Hid (mayG s = true → ∀ w1, Bel W w1 → Calls Tryz.prog 81 #[.slice x.aM s.M.length x.cM, .pointer (some ⟨bi, 0, none⟩)] w1 fun e w' => e = .returned (.bool (addB id s.M)) ∧ w' = w1) := hide (fun hm w1 hb => mayAdd_g (hb.cell hi) (h.m.bel hb) (by have := (mem64 (mayG_num hm).2.1 (mayG_num hm).2.2.1).2; omega))
  have HBu : Hid (mayG s = true → ∀ w1, Bel W w1 → Calls Tryz.prog 36 #[.agg (gc s x)] w1 fun e w' => e = .returned (.bool s.busy) ∧ Bel w1 w') := hide (fun hm w1 hb => by
    obtain ⟨k, hk1, hk2⟩ := may_com hm
    exact busy_g (h.l.bel hb) k hk2 hk1 (by have := hz.l; omega) hz.cap)
  have HSu : Hid (∀ w1, Bel W w1 → Calls Tryz.prog 94 #[.agg (gc s x)] w1 fun e w' => e = .returned (.bool s.sure) ∧ Bel w1 w') := hide (fun w1 hb => sure_g (h.l.bel hb) hz.base.1 hz.commit (by have := hz.l; omega))
  clear h hz hi
  unfold GP.chgE at *
  generalize addB id s.M = mb at *
  generalize s.busy = bu at *
  generalize s.sure = su at *
  cases hm : mayG s with
  | false =>
    rw [hm] at H1
    clear HM HBu HSu hne
    rw [if_pos rfl]
    rw [if_neg (by decide)] at H1
    clear hm
    go_enter Tryz.func85, Tryz.ntmps85
    go_wp2_with (first
      | go_skip
      | (refine bx_boxK 31 (.tmp 0) (by exact rfl) (by exact rfl) (gc s x) (by exact rfl) ?_; intro b w0 hr0 hs0 hb0; have HR0 := hide hr0; have HB0 := hide (And.intro hb0 hs0); clear hr0 hs0 hb0)
      | (refine bx_new rfl 31 rfl _ Tryz.zeroP ?_; intro b2 w1 hr1 hs1 hb1; have HY : Hid (TyG W w1 b b2 s x) := hide ⟨hb1.row (unhide HR0), (unhide HB0).1.trans hb1, ⟨_, _, hr1⟩, by have := (unhide HB0).2; omega, by have := (unhide HB0).1.size; omega, fun e => by have := lt_of_some (unhide HR0); omega⟩; clear hr1 hs1 hb1 HR0 HB0)
      | (refine bx_ldK 31 (.tmp 3) (by exact rfl) b (by exact rfl) (by exact rfl) (gc s x) _ (unhide HY).row Tryz.underlying31 (Tryz.sizeP _ _) ?_)
      | go_guarded
      | (go_at_call 42; refine ((unhide H1) _ (unhide HY).bel).mono ?_; rintro e w2 ⟨rfl, hb2⟩; replace HY := hide ((unhide HY).next hb2); have y4 := (Bg.of (unhide HY).row).c4; have y1 := (Bg.of (unhide HY).row).c1; clear hb2)
      | (go_at_call 81; refine ((unhide HM) _ (unhide HY).bel).mono ?_; rintro e w3 ⟨rfl, hw3⟩; rw [hw3]; clear hw3)
      | (go_at_call 36; refine ((unhide HBu) _ (unhide HY).bel).mono ?_; rintro e w4 ⟨rfl, hb4⟩; replace HY := hide ((unhide HY).next hb4); clear hb4)
      | (go_at_call 94; refine ((unhide HSu) _ (unhide HY).bel).mono ?_; rintro e w5 ⟨rfl, hb5⟩; replace HY := hide ((unhide HY).next hb5); clear hb5)
      | (obtain ⟨s2, x2, h2⟩ := (unhide HY).row2; refine bx_st rfl 31 (.tmp 6) _ rfl b2 (gc g0 y0) _ rfl rfl h2 (Tryz.sizeP _ _) rfl (gc_one _ _) ?_; intro w9 hr9 hc9; have HR9 := hide (And.intro hr9 ((unhide HY).out hc9)); clear hr9 hc9 h2))
    exact bodyPost_ret (res3 (p := 6) (q := 7) (r := 8) rfl Tryz.underlying31 (Tryz.sizeP _ _) (unhide HR9).1 _ _ _ rfl rfl rfl) rfl ⟨rfl, (unhide HR9).2⟩
  | true =>
    rw [hm] at H1 hne
    replace HM := hide ((unhide HM) hm)
    replace HBu := hide ((unhide HBu) hm)
    rw [if_pos rfl] at H1
    rw [if_neg (by decide)] at hne ⊢
    clear hm
    by_cases hr : s.role ≠ 2
    · rw [if_pos hr]
      have e1 : (s.role != 2) = true := by simp [hr]
      have e2 : (s.role == 2) = false := by simp [hr]
      clear HM HBu HSu hne hr
      go_enter Tryz.func85, Tryz.ntmps85
      go_wp2_with (first
        | go_skip
        | (refine bx_boxK 31 (.tmp 0) (by exact rfl) (by exact rfl) (gc s x) (by exact rfl) ?_; intro b w0 hr0 hs0 hb0; have HR0 := hide hr0; have HB0 := hide (And.intro hb0 hs0); clear hr0 hs0 hb0)
        | (refine bx_new rfl 31 rfl _ Tryz.zeroP ?_; intro b2 w1 hr1 hs1 hb1; have HY : Hid (TyG W w1 b b2 s x) := hide ⟨hb1.row (unhide HR0), (unhide HB0).1.trans hb1, ⟨_, _, hr1⟩, by have := (unhide HB0).2; omega, by have := (unhide HB0).1.size; omega, fun e => by have := lt_of_some (unhide HR0); omega⟩; clear hr1 hs1 hb1 HR0 HB0)
        | (refine bx_ldK 31 (.tmp 3) (by exact rfl) b (by exact rfl) (by exact rfl) (gc s x) _ (unhide HY).row Tryz.underlying31 (Tryz.sizeP _ _) ?_)
        | go_guarded
        | (go_at_call 42; refine ((unhide H1) _ (unhide HY).bel).mono ?_; rintro e w2 ⟨rfl, hb2⟩; replace HY := hide ((unhide HY).next hb2); have y4 := (Bg.of (unhide HY).row).c4; have y1 := (Bg.of (unhide HY).row).c1; clear hb2)
        | (go_at_call 81; refine ((unhide HM) _ (unhide HY).bel).mono ?_; rintro e w3 ⟨rfl, hw3⟩; rw [hw3]; clear hw3)
        | (go_at_call 36; refine ((unhide HBu) _ (unhide HY).bel).mono ?_; rintro e w4 ⟨rfl, hb4⟩; replace HY := hide ((unhide HY).next hb4); clear hb4)
        | (go_at_call 94; refine ((unhide HSu) _ (unhide HY).bel).mono ?_; rintro e w5 ⟨rfl, hb5⟩; replace HY := hide ((unhide HY).next hb5); clear hb5)
        | (obtain ⟨s2, x2, h2⟩ := (unhide HY).row2; refine bx_st rfl 31 (.tmp 6) _ rfl b2 (gc g0 y0) _ rfl rfl h2 (Tryz.sizeP _ _) rfl (gc_one _ _) ?_; intro w9 hr9 hc9; have HR9 := hide (And.intro hr9 ((unhide HY).out hc9)); clear hr9 hc9 h2))
      exact bodyPost_ret (res3 (p := 6) (q := 7) (r := 8) rfl Tryz.underlying31 (Tryz.sizeP _ _) (unhide HR9).1 _ _ _ rfl rfl rfl) rfl ⟨rfl, (unhide HR9).2⟩
    · rw [if_neg hr] at hne ⊢
      have hr' : s.role = 2 := Decidable.not_not.1 hr
      have e1 : (s.role != 2) = false := by simp [hr']
      have e2 : (s.role == 2) = true := by simp [hr']
      clear hr hr'
      cases mb with
      | false =>
        rw [if_pos rfl]
        clear HBu HSu hne
        go_enter Tryz.func85, Tryz.ntmps85
        go_wp2_with (first
          | go_skip
          | (refine bx_boxK 31 (.tmp 0) (by exact rfl) (by exact rfl) (gc s x) (by exact rfl) ?_; intro b w0 hr0 hs0 hb0; have HR0 := hide hr0; have HB0 := hide (And.intro hb0 hs0); clear hr0 hs0 hb0)
          | (refine bx_new rfl 31 rfl _ Tryz.zeroP ?_; intro b2 w1 hr1 hs1 hb1; have HY : Hid (TyG W w1 b b2 s x) := hide ⟨hb1.row (unhide HR0), (unhide HB0).1.trans hb1, ⟨_, _, hr1⟩, by have := (unhide HB0).2; omega, by have := (unhide HB0).1.size; omega, fun e => by have := lt_of_some (unhide HR0); omega⟩; clear hr1 hs1 hb1 HR0 HB0)
          | (refine bx_ldK 31 (.tmp 3) (by exact rfl) b (by exact rfl) (by exact rfl) (gc s x) _ (unhide HY).row Tryz.underlying31 (Tryz.sizeP _ _) ?_)
          | go_guarded
          | (go_at_call 42; refine ((unhide H1) _ (unhide HY).bel).mono ?_; rintro e w2 ⟨rfl, hb2⟩; replace HY := hide ((unhide HY).next hb2); have y4 := (Bg.of (unhide HY).row).c4; have y1 := (Bg.of (unhide HY).row).c1; clear hb2)
          | (go_at_call 81; refine ((unhide HM) _ (unhide HY).bel).mono ?_; rintro e w3 ⟨rfl, hw3⟩; rw [hw3]; clear hw3)
          | (go_at_call 36; refine ((unhide HBu) _ (unhide HY).bel).mono ?_; rintro e w4 ⟨rfl, hb4⟩; replace HY := hide ((unhide HY).next hb4); clear hb4)
          | (go_at_call 94; refine ((unhide HSu) _ (unhide HY).bel).mono ?_; rintro e w5 ⟨rfl, hb5⟩; replace HY := hide ((unhide HY).next hb5); clear hb5)
          | (obtain ⟨s2, x2, h2⟩ := (unhide HY).row2; refine bx_st rfl 31 (.tmp 6) _ rfl b2 (gc g0 y0) _ rfl rfl h2 (Tryz.sizeP _ _) rfl (gc_one _ _) ?_; intro w9 hr9 hc9; have HR9 := hide (And.intro hr9 ((unhide HY).out hc9)); clear hr9 hc9 h2))
        exact bodyPost_ret (res3 (p := 6) (q := 7) (r := 8) rfl Tryz.underlying31 (Tryz.sizeP _ _) (unhide HR9).1 _ _ _ rfl rfl rfl) rfl ⟨rfl, (unhide HR9).2⟩
      | true =>
        rw [if_neg (by decide)] at hne ⊢
        cases bu with
        | true =>
          rw [Bool.true_or, if_pos rfl]
          clear HSu hne
          go_enter Tryz.func85, Tryz.ntmps85
          go_wp2_with (first
            | go_skip
            | (refine bx_boxK 31 (.tmp 0) (by exact rfl) (by exact rfl) (gc s x) (by exact rfl) ?_; intro b w0 hr0 hs0 hb0; have HR0 := hide hr0; have HB0 := hide (And.intro hb0 hs0); clear hr0 hs0 hb0)
            | (refine bx_new rfl 31 rfl _ Tryz.zeroP ?_; intro b2 w1 hr1 hs1 hb1; have HY : Hid (TyG W w1 b b2 s x) := hide ⟨hb1.row (unhide HR0), (unhide HB0).1.trans hb1, ⟨_, _, hr1⟩, by have := (unhide HB0).2; omega, by have := (unhide HB0).1.size; omega, fun e => by have := lt_of_some (unhide HR0); omega⟩; clear hr1 hs1 hb1 HR0 HB0)
            | (refine bx_ldK 31 (.tmp 3) (by exact rfl) b (by exact rfl) (by exact rfl) (gc s x) _ (unhide HY).row Tryz.underlying31 (Tryz.sizeP _ _) ?_)
            | go_guarded
            | (go_at_call 42; refine ((unhide H1) _ (unhide HY).bel).mono ?_; rintro e w2 ⟨rfl, hb2⟩; replace HY := hide ((unhide HY).next hb2); have y4 := (Bg.of (unhide HY).row).c4; have y1 := (Bg.of (unhide HY).row).c1; clear hb2)
            | (go_at_call 81; refine ((unhide HM) _ (unhide HY).bel).mono ?_; rintro e w3 ⟨rfl, hw3⟩; rw [hw3]; clear hw3)
            | (go_at_call 36; refine ((unhide HBu) _ (unhide HY).bel).mono ?_; rintro e w4 ⟨rfl, hb4⟩; replace HY := hide ((unhide HY).next hb4); clear hb4)
            | (go_at_call 94; refine ((unhide HSu) _ (unhide HY).bel).mono ?_; rintro e w5 ⟨rfl, hb5⟩; replace HY := hide ((unhide HY).next hb5); clear hb5)
            | (obtain ⟨s2, x2, h2⟩ := (unhide HY).row2; refine bx_st rfl 31 (.tmp 6) _ rfl b2 (gc g0 y0) _ rfl rfl h2 (Tryz.sizeP _ _) rfl (gc_one _ _) ?_; intro w9 hr9 hc9; have HR9 := hide (And.intro hr9 ((unhide HY).out hc9)); clear hr9 hc9 h2))
          exact bodyPost_ret (res3 (p := 6) (q := 7) (r := 8) rfl Tryz.underlying31 (Tryz.sizeP _ _) (unhide HR9).1 _ _ _ rfl rfl rfl) rfl ⟨rfl, (unhide HR9).2⟩
        | false =>
          cases su with
          | true => exact absurd rfl hne
          | false =>
            rw [show (false || !false) = true from rfl, if_pos rfl]
            clear hne
            go_enter Tryz.func85, Tryz.ntmps85
            go_wp2_with (first
              | go_skip
              | (refine bx_boxK 31 (.tmp 0) (by exact rfl) (by exact rfl) (gc s x) (by exact rfl) ?_; intro b w0 hr0 hs0 hb0; have HR0 := hide hr0; have HB0 := hide (And.intro hb0 hs0); clear hr0 hs0 hb0)
              | (refine bx_new rfl 31 rfl _ Tryz.zeroP ?_; intro b2 w1 hr1 hs1 hb1; have HY : Hid (TyG W w1 b b2 s x) := hide ⟨hb1.row (unhide HR0), (unhide HB0).1.trans hb1, ⟨_, _, hr1⟩, by have := (unhide HB0).2; omega, by have := (unhide HB0).1.size; omega, fun e => by have := lt_of_some (unhide HR0); omega⟩; clear hr1 hs1 hb1 HR0 HB0)
              | (refine bx_ldK 31 (.tmp 3) (by exact rfl) b (by exact rfl) (by exact rfl) (gc s x) _ (unhide HY).row Tryz.underlying31 (Tryz.sizeP _ _) ?_)
              | go_guarded
              | (go_at_call 42; refine ((unhide H1) _ (unhide HY).bel).mono ?_; rintro e w2 ⟨rfl, hb2⟩; replace HY := hide ((unhide HY).next hb2); have y4 := (Bg.of (unhide HY).row).c4; have y1 := (Bg.of (unhide HY).row).c1; clear hb2)
              | (go_at_call 81; refine ((unhide HM) _ (unhide HY).bel).mono ?_; rintro e w3 ⟨rfl, hw3⟩; rw [hw3]; clear hw3)
              | (go_at_call 36; refine ((unhide HBu) _ (unhide HY).bel).mono ?_; rintro e w4 ⟨rfl, hb4⟩; replace HY := hide ((unhide HY).next hb4); clear hb4)
              | (go_at_call 94; refine ((unhide HSu) _ (unhide HY).bel).mono ?_; rintro e w5 ⟨rfl, hb5⟩; replace HY := hide ((unhide HY).next hb5); clear hb5)
              | (obtain ⟨s2, x2, h2⟩ := (unhide HY).row2; refine bx_st rfl 31 (.tmp 6) _ rfl b2 (gc g0 y0) _ rfl rfl h2 (Tryz.sizeP _ _) rfl (gc_one _ _) ?_; intro w9 hr9 hc9; have HR9 := hide (And.intro hr9 ((unhide HY).out hc9)); clear hr9 hc9 h2))
            exact bodyPost_ret (res3 (p := 6) (q := 7) (r := 8) rfl Tryz.underlying31 (Tryz.sizeP _ _) (unhide HR9).1 _ _ _ rfl rfl rfl) rfl ⟨rfl, (unhide HR9).2⟩
set_option maxRecDepth 100000 in
set_option maxHeartbeats 8000000 in
theorem chgRem_no {W : World} {s : GP} {x : Px} {bi : Nat} {id : Int} (h : Gp W s x) (hz : Gz s x) (hi : W.cell? ⟨bi, 0, none⟩ = some (.int .i64 id)) (hne : s.chgE (remB id s.M) ≠ 0) : Calls Tryz.prog 85 #[.agg (gc s x), .func (.func 86) #[] #[.pointer (some ⟨bi, 0, none⟩)], .func (.func 87) #[] #[.pointer (some ⟨bi, 0, none⟩)]] W fun e w' => e = .returned (.tuple #[.agg (gc g0 y0), .int .u64 0, .int .i64 (s.chgE (remB id s.M))]) ∧ Bel W w' := by
  have H1 : Hid (∀ W', Bel W W' → Calls Tryz.prog 42 #[.agg (gc s x)] W' fun e w' => e = .returned (.int .i64 (if mayG s then 0 else 2)) ∧ Bel W' w') := hide (fun W' hb => may_g (h.bel hb) hz)
  have HM : Hid (mayG s = true → ∀ w1, Bel W w1 → Calls Tryz.prog 86 #[.slice x.aM s.M.length x.cM, .pointer (some ⟨bi, 0, none⟩)] w1 fun e w' => e = .returned (.bool (remB id s.M)) ∧ w' = w1) := hide (fun hm w1 hb => mayRem_g (hb.cell hi) (h.m.bel hb) (by have := (mem64 (mayG_num hm).2.1 (mayG_num hm).2.2.1).2; omega))
  have HBu : Hid (mayG s = true → ∀ w1, Bel W w1 → Calls Tryz.prog 36 #[.agg (gc s x)] w1 fun e w' => e = .returned (.bool s.busy) ∧ Bel w1 w') := hide (fun hm w1 hb => by
    obtain ⟨k, hk1, hk2⟩ := may_com hm
    exact busy_g (h.l.bel hb) k hk2 hk1 (by have := hz.l; omega) hz.cap)
  have HSu : Hid (∀ w1, Bel W w1 → Calls Tryz.prog 94 #[.agg (gc s x)] w1 fun e w' => e = .returned (.bool s.sure) ∧ Bel w1 w') := hide (fun w1 hb => sure_g (h.l.bel hb) hz.base.1 hz.commit (by have := hz.l; omega))
  clear h hz hi
  unfold GP.chgE at *
  generalize remB id s.M = mb at *
  generalize s.busy = bu at *
  generalize s.sure = su at *
  cases hm : mayG s with
  | false =>
    rw [hm] at H1
    clear HM HBu HSu hne
    rw [if_pos rfl]
    rw [if_neg (by decide)] at H1
    clear hm
    go_enter Tryz.func85, Tryz.ntmps85
    go_wp2_with (first
      | go_skip
      | (refine bx_boxK 31 (.tmp 0) (by exact rfl) (by exact rfl) (gc s x) (by exact rfl) ?_; intro b w0 hr0 hs0 hb0; have HR0 := hide hr0; have HB0 := hide (And.intro hb0 hs0); clear hr0 hs0 hb0)
      | (refine bx_new rfl 31 rfl _ Tryz.zeroP ?_; intro b2 w1 hr1 hs1 hb1; have HY : Hid (TyG W w1 b b2 s x) := hide ⟨hb1.row (unhide HR0), (unhide HB0).1.trans hb1, ⟨_, _, hr1⟩, by have := (unhide HB0).2; omega, by have := (unhide HB0).1.size; omega, fun e => by have := lt_of_some (unhide HR0); omega⟩; clear hr1 hs1 hb1 HR0 HB0)
      | (refine bx_ldK 31 (.tmp 3) (by exact rfl) b (by exact rfl) (by exact rfl) (gc s x) _ (unhide HY).row Tryz.underlying31 (Tryz.sizeP _ _) ?_)
      | go_guarded
      | (go_at_call 42; refine ((unhide H1) _ (unhide HY).bel).mono ?_; rintro e w2 ⟨rfl, hb2⟩; replace HY := hide ((unhide HY).next hb2); have y4 := (Bg.of (unhide HY).row).c4; have y1 := (Bg.of (unhide HY).row).c1; clear hb2)
      | (go_at_call 86; refine ((unhide HM) _ (unhide HY).bel).mono ?_; rintro e w3 ⟨rfl, hw3⟩; rw [hw3]; clear hw3)
      | (go_at_call 36; refine ((unhide HBu) _ (unhide HY).bel).mono ?_; rintro e w4 ⟨rfl, hb4⟩; replace HY := hide ((unhide HY).next hb4); clear hb4)
      | (go_at_call 94; refine ((unhide HSu) _ (unhide HY).bel).mono ?_; rintro e w5 ⟨rfl, hb5⟩; replace HY := hide ((unhide HY).next hb5); clear hb5)
      | (obtain ⟨s2, x2, h2⟩ := (unhide HY).row2; refine bx_st rfl 31 (.tmp 6) _ rfl b2 (gc g0 y0) _ rfl rfl h2 (Tryz.sizeP _ _) rfl (gc_one _ _) ?_; intro w9 hr9 hc9; have HR9 := hide (And.intro hr9 ((unhide HY).out hc9)); clear hr9 hc9 h2))
    exact bodyPost_ret (res3 (p := 6) (q := 7) (r := 8) rfl Tryz.underlying31 (Tryz.sizeP _ _) (unhide HR9).1 _ _ _ rfl rfl rfl) rfl ⟨rfl, (unhide HR9).2⟩
  | true =>
    rw [hm] at H1 hne
    replace HM := hide ((unhide HM) hm)
    replace HBu := hide ((unhide HBu) hm)
    rw [if_pos rfl] at H1
    rw [if_neg (by decide)] at hne ⊢
    clear hm
    by_cases hr : s.role ≠ 2
    · rw [if_pos hr]
      have e1 : (s.role != 2) = true := by simp [hr]
      have e2 : (s.role == 2) = false := by simp [hr]
      clear HM HBu HSu hne hr
      go_enter Tryz.func85, Tryz.ntmps85
      go_wp2_with (first
        | go_skip
        | (refine bx_boxK 31 (.tmp 0) (by exact rfl) (by exact rfl) (gc s x) (by exact rfl) ?_; intro b w0 hr0 hs0 hb0; have HR0 := hide hr0; have HB0 := hide (And.intro hb0 hs0); clear hr0 hs0 hb0)
        | (refine bx_new rfl 31 rfl _ Tryz.zeroP ?_; intro b2 w1 hr1 hs1 hb1; have HY : Hid (TyG W w1 b b2 s x) := hide ⟨hb1.row (unhide HR0), (unhide HB0).1.trans hb1, ⟨_, _, hr1⟩, by have := (unhide HB0).2; omega, by have := (unhide HB0).1.size; omega, fun e => by have := lt_of_some (unhide HR0); omega⟩; clear hr1 hs1 hb1 HR0 HB0)
        | (refine bx_ldK 31 (.tmp 3) (by exact rfl) b (by exact rfl) (by exact rfl) (gc s x) _ (unhide HY).row Tryz.underlying31 (Tryz.sizeP _ _) ?_)
        | go_guarded
        | (go_at_call 42; refine ((unhide H1) _ (unhide HY).bel).mono ?_; rintro e w2 ⟨rfl, hb2⟩; replace HY := hide ((unhide HY).next hb2); have y4 := (Bg.of (unhide HY).row).c4; have y1 := (Bg.of (unhide HY).row).c1; clear hb2)
        | (go_at_call 86; refine ((unhide HM) _ (unhide HY).bel).mono ?_; rintro e w3 ⟨rfl, hw3⟩; rw [hw3]; clear hw3)
        | (go_at_call 36; refine ((unhide HBu) _ (unhide HY).bel).mono ?_; rintro e w4 ⟨rfl, hb4⟩; replace HY := hide ((unhide HY).next hb4); clear hb4)
        | (go_at_call 94; refine ((unhide HSu) _ (unhide HY).bel).mono ?_; rintro e w5 ⟨rfl, hb5⟩; replace HY := hide ((unhide HY).next hb5); clear hb5)
        | (obtain ⟨s2, x2, h2⟩ := (unhide HY).row2; refine bx_st rfl 31 (.tmp 6) _ rfl b2 (gc g0 y0) _ rfl rfl h2 (Tryz.sizeP _ _) rfl (gc_one _ _) ?_; intro w9 hr9 hc9; have HR9 := hide (And.intro hr9 ((unhide HY).out hc9)); clear hr9 hc9 h2))
      exact bodyPost_ret (res3 (p := 6) (q := 7) (r := 8) rfl Tryz.underlying31 (Tryz.sizeP _ _) (unhide HR9).1 _ _ _ rfl rfl rfl) rfl ⟨rfl, (unhide HR9).2⟩
    · rw [if_neg hr] at hne ⊢
      have hr' : s.role = 2 := Decidable.not_not.1 hr
      have e1 : (s.role != 2) = false := by simp [hr']
      have e2 : (s.role == 2) = true := by simp [hr']
      clear hr hr'
      cases mb with
      | false =>
        rw [if_pos rfl]
        clear HBu HSu hne
        go_enter Tryz.func85, Tryz.ntmps85
        go_wp2_with (first
          | go_skip
          | (refine bx_boxK 31 (.tmp 0) (by exact rfl) (by exact rfl) (gc s x) (by exact rfl) ?_; intro b w0 hr0 hs0 hb0; have HR0 := hide hr0; have HB0 := hide (And.intro hb0 hs0); clear hr0 hs0 hb0)
          | (refine bx_new rfl 31 rfl _ Tryz.zeroP ?_; intro b2 w1 hr1 hs1 hb1; have HY : Hid (TyG W w1 b b2 s x) := hide ⟨hb1.row (unhide HR0), (unhide HB0).1.trans hb1, ⟨_, _, hr1⟩, by have := (unhide HB0).2; omega, by have := (unhide HB0).1.size; omega, fun e => by have := lt_of_some (unhide HR0); omega⟩; clear hr1 hs1 hb1 HR0 HB0)
          | (refine bx_ldK 31 (.tmp 3) (by exact rfl) b (by exact rfl) (by exact rfl) (gc s x) _ (unhide HY).row Tryz.underlying31 (Tryz.sizeP _ _) ?_)
          | go_guarded
          | (go_at_call 42; refine ((unhide H1) _ (unhide HY).bel).mono ?_; rintro e w2 ⟨rfl, hb2⟩; replace HY := hide ((unhide HY).next hb2); have y4 := (Bg.of (unhide HY).row).c4; have y1 := (Bg.of (unhide HY).row).c1; clear hb2)
          | (go_at_call 86; refine ((unhide HM) _ (unhide HY).bel).mono ?_; rintro e w3 ⟨rfl, hw3⟩; rw [hw3]; clear hw3)
          | (go_at_call 36; refine ((unhide HBu) _ (unhide HY).bel).mono ?_; rintro e w4 ⟨rfl, hb4⟩; replace HY := hide ((unhide HY).next hb4); clear hb4)
          | (go_at_call 94; refine ((unhide HSu) _ (unhide HY).bel).mono ?_; rintro e w5 ⟨rfl, hb5⟩; replace HY := hide ((unhide HY).next hb5); clear hb5)
          | (obtain ⟨s2, x2, h2⟩ := (unhide HY).row2; refine bx_st rfl 31 (.tmp 6) _ rfl b2 (gc g0 y0) _ rfl rfl h2 (Tryz.sizeP _ _) rfl (gc_one _ _) ?_; intro w9 hr9 hc9; have HR9 := hide (And.intro hr9 ((unhide HY).out hc9)); clear hr9 hc9 h2))
        exact bodyPost_ret (res3 (p := 6) (q := 7) (r := 8) rfl Tryz.underlying31 (Tryz.sizeP _ _) (unhide HR9).1 _ _ _ rfl rfl rfl) rfl ⟨rfl, (unhide HR9).2⟩
      | true =>
        rw [if_neg (by decide)] at hne ⊢
        cases bu with
        | true =>
          rw [Bool.true_or, if_pos rfl]
          clear HSu hne
          go_enter Tryz.func85, Tryz.ntmps85
          go_wp2_with (first
            | go_skip
            | (refine bx_boxK 31 (.tmp 0) (by exact rfl) (by exact rfl) (gc s x) (by exact rfl) ?_; intro b w0 hr0 hs0 hb0; have HR0 := hide hr0; have HB0 := hide (And.intro hb0 hs0); clear hr0 hs0 hb0)
            | (refine bx_new rfl 31 rfl _ Tryz.zeroP ?_; intro b2 w1 hr1 hs1 hb1; have HY : Hid (TyG W w1 b b2 s x) := hide ⟨hb1.row (unhide HR0), (unhide HB0).1.trans hb1, ⟨_, _, hr1⟩, by have := (unhide HB0).2; omega, by have := (unhide HB0).1.size; omega, fun e => by have := lt_of_some (unhide HR0); omega⟩; clear hr1 hs1 hb1 HR0 HB0)
            | (refine bx_ldK 31 (.tmp 3) (by exact rfl) b (by exact rfl) (by exact rfl) (gc s x) _ (unhide HY).row Tryz.underlying31 (Tryz.sizeP _ _) ?_)
            | go_guarded
            | (go_at_call 42; refine ((unhide H1) _ (unhide HY).bel).mono ?_; rintro e w2 ⟨rfl, hb2⟩; replace HY := hide ((unhide HY).next hb2); have y4 := (Bg.of (unhide HY).row).c4; have y1 := (Bg.of (unhide HY).row).c1; clear hb2)
            | (go_at_call 86; refine ((unhide HM) _ (unhide HY).bel).mono ?_; rintro e w3 ⟨rfl, hw3⟩; rw [hw3]; clear hw3)
            | (go_at_call 36; refine ((unhide HBu) _ (unhide HY).bel).mono ?_; rintro e w4 ⟨rfl, hb4⟩; replace HY := hide ((unhide HY).next hb4); clear hb4)
            | (go_at_call 94; refine ((unhide HSu) _ (unhide HY).bel).mono ?_; rintro e w5 ⟨rfl, hb5⟩; replace HY := hide ((unhide HY).next hb5); clear hb5)
            | (obtain ⟨s2, x2, h2⟩ := (unhide HY).row2; refine bx_st rfl 31 (.tmp 6) _ rfl b2 (gc g0 y0) _ rfl rfl h2 (Tryz.sizeP _ _) rfl (gc_one _ _) ?_; intro w9 hr9 hc9; have HR9 := hide (And.intro hr9 ((unhide HY).out hc9)); clear hr9 hc9 h2))
          exact bodyPost_ret (res3 (p := 6) (q := 7) (r := 8) rfl Tryz.underlying31 (Tryz.sizeP _ _) (unhide HR9).1 _ _ _ rfl rfl rfl) rfl ⟨rfl, (unhide HR9).2⟩
        | false =>
          cases su with
          | true => exact absurd rfl hne
          | false =>
            rw [show (false || !false) = true from rfl, if_pos rfl]
            clear hne
            go_enter Tryz.func85, Tryz.ntmps85
            go_wp2_with (first
              | go_skip
              | (refine bx_boxK 31 (.tmp 0) (by exact rfl) (by exact rfl) (gc s x) (by exact rfl) ?_; intro b w0 hr0 hs0 hb0; have HR0 := hide hr0; have HB0 := hide (And.intro hb0 hs0); clear hr0 hs0 hb0)
              | (refine bx_new rfl 31 rfl _ Tryz.zeroP ?_; intro b2 w1 hr1 hs1 hb1; have HY : Hid (TyG W w1 b b2 s x) := hide ⟨hb1.row (unhide HR0), (unhide HB0).1.trans hb1, ⟨_, _, hr1⟩, by have := (unhide HB0).2; omega, by have := (unhide HB0).1.size; omega, fun e => by have := lt_of_some (unhide HR0); omega⟩; clear hr1 hs1 hb1 HR0 HB0)
              | (refine bx_ldK 31 (.tmp 3) (by exact rfl) b (by exact rfl) (by exact rfl) (gc s x) _ (unhide HY).row Tryz.underlying31 (Tryz.sizeP _ _) ?_)
              | go_guarded
              | (go_at_call 42; refine ((unhide H1) _ (unhide HY).bel).mono ?_; rintro e w2 ⟨rfl, hb2⟩; replace HY := hide ((unhide HY).next hb2); have y4 := (Bg.of (unhide HY).row).c4; have y1 := (Bg.of (unhide HY).row).c1; clear hb2)
              | (go_at_call 86; refine ((unhide HM) _ (unhide HY).bel).mono ?_; rintro e w3 ⟨rfl, hw3⟩; rw [hw3]; clear hw3)
              | (go_at_call 36; refine ((unhide HBu) _ (unhide HY).bel).mono ?_; rintro e w4 ⟨rfl, hb4⟩; replace HY := hide ((unhide HY).next hb4); clear hb4)
              | (go_at_call 94; refine ((unhide HSu) _ (unhide HY).bel).mono ?_; rintro e w5 ⟨rfl, hb5⟩; replace HY := hide ((unhide HY).next hb5); clear hb5)
              | (obtain ⟨s2, x2, h2⟩ := (unhide HY).row2; refine bx_st rfl 31 (.tmp 6) _ rfl b2 (gc g0 y0) _ rfl rfl h2 (Tryz.sizeP _ _) rfl (gc_one _ _) ?_; intro w9 hr9 hc9; have HR9 := hide (And.intro hr9 ((unhide HY).out hc9)); clear hr9 hc9 h2))
            exact bodyPost_ret (res3 (p := 6) (q := 7) (r := 8) rfl Tryz.underlying31 (Tryz.sizeP _ _) (unhide HR9).1 _ _ _ rfl rfl rfl) rfl ⟨rfl, (unhide HR9).2⟩
end Go.Proofs.YthekbhliokcpcaaGreat
