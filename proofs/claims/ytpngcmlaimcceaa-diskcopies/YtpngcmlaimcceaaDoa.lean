/- The document's files as a row of structs: find, bytes, gone, laid. -/
import Derived.Test.YtpngcmlaimcceaaKpt
import Derived.Test.YtpngcmlaimcceaaCop
import Derived.Sort.Walk0
namespace Go.Proofs.Ytpngcmlaimcceaa
open Go.RowKit Go.Maps Go.WideMaps
/-- The cells of a row of files. -/
def fcs : Fs → List Value
  | [] => []
  | p :: r => .string ⟨p.1.toArray⟩ :: .string ⟨p.2.toArray⟩ :: fcs r
theorem fcs_len : ∀ l : Fs, (fcs l).length = l.length * 2
  | [] => rfl
  | _ :: r => by rw [fcs, List.length_cons, List.length_cons, fcs_len r, List.length_cons]; omega
theorem fcs_app : ∀ a b : Fs, fcs (a ++ b) = fcs a ++ fcs b
  | [], _ => rfl
  | p :: r, b => by rw [List.cons_append, fcs, fcs, fcs_app r b]; rfl
theorem fcs_at : ∀ (l : Fs) (k : Nat) (h : k < l.length), (fcs l)[k * 2]? = some (.string ⟨l[k].1.toArray⟩) ∧ (fcs l)[k * 2 + 1]? = some (.string ⟨l[k].2.toArray⟩)
  | p :: r, 0, _ => ⟨rfl, rfl⟩
  | p :: r, k + 1, h => by
    have := fcs_at r k (by simpa using h)
    rw [show (k + 1) * 2 = k * 2 + 1 + 1 by omega]
    exact this
/-- A row of files as it is read: a slice that may be nil. -/
def Rf (W : World) (v : Value) (l : Fs) : Prop := W.ownsRow 0 66 2 v l.length (fcs l)
theorem Rf.bel {W W' : World} {v : Value} {l : Fs} (h : Rf W v l) (hb : Bel W W') : Rf W' v l := row_at h (fun k hk => hb.block k (h.lt k hk).2)
theorem Rf.shape {W : World} {v : Value} {l : Fs} (h : Rf W v l) : ∃ a cap g, v = .slice a l.length cap ∧ l.length ≤ cap ∧ (l.length ≠ 0 → a = some ⟨g, 0, none⟩) ∧ ∀ k (hk : k < l.length), W.cell? ⟨g, k * 2, none⟩ = some (.string ⟨l[k].1.toArray⟩) ∧ W.cell? ⟨g, k * 2 + 1, none⟩ = some (.string ⟨l[k].2.toArray⟩) := by
  have h0 := h
  rcases h.2 with ⟨rfl, h1⟩ | ⟨g, cap, cur, rfl, _, _, h3, _⟩
  · exact ⟨none, 0, 0, by rw [h1], by omega, fun h => absurd h1 h, fun k hk => absurd hk (by omega)⟩
  · refine ⟨_, cap, g, rfl, h3, fun _ => rfl, fun k hk => ?_⟩
    obtain ⟨e1, e2⟩ := fcs_at l k hk
    have c1 := World.ownsRow.cellAt h0 (k * 2) (by omega)
    have c2 := World.ownsRow.cellAt h0 (k * 2 + 1) (by omega)
    exact ⟨c1.trans e1, c2.trans e2⟩
/-- Where the first file of a name lies; -1: there is none. -/
def Fnd (l : Fs) (n : List UInt8) (i : Int) : Prop := (i = -1 ∧ hasF l n = false) ∨ ∃ k : Nat, i = k ∧ ∃ h : k < l.length, hasF l n = true ∧ l[k].1 = n ∧ get l n = l[k].2
theorem str_same (x y : List UInt8) : ((⟨x.toArray⟩ : ByteArray).toList == (⟨y.toArray⟩ : ByteArray).toList) = decide (x = y) := by
  rw [ByteArray.toList_eq, ByteArray.toList_eq]
  by_cases h : x = y
  · simp [h]
  · simp [h]
theorem find_hit {l : Fs} {n : List UInt8} {k : Nat} (hlt : k < l.length) (he : l[k].1 = n) (hno : ∀ j (h : j < l.length), j < k → l[j].1 ≠ n) : ∃ h : k < l.length, hasF l n = true ∧ l[k].1 = n ∧ get l n = l[k].2 := by
  refine ⟨hlt, List.any_eq_true.2 ⟨l[k], List.getElem_mem hlt, by simp [he]⟩, he, ?_⟩
  induction l generalizing k with
  | nil => simp at hlt
  | cons y r ih =>
    rw [get_cons]
    cases k with
    | zero =>
      have : y.1 = n := he
      simp [this]
    | succ k =>
      have h0 : y.1 ≠ n := hno 0 (by simp) (by omega)
      simp [h0]
      exact ih (by simpa using hlt) he (fun j h hj => hno (j + 1) (by simpa using h) (by omega))
set_option maxRecDepth 100000 in
set_option maxHeartbeats 1000000 in
/-- find: the place of a file, or -1; and whether the program's file is there. -/
theorem dfind_any (l : Fs) (v : Value) (n : List UInt8) (w : World) (hr : Rf w v l) (hl : l.length ≤ 1000000) :
    Calls Try.prog 50 #[v, .string ⟨n.toArray⟩] w fun e w' => (∃ i : Int, e = .returned (.int .i64 i) ∧ Fnd l n i) ∧ w' = w := by
  obtain ⟨a, cap, g, rfl, hc, ha, hcl⟩ := hr.shape
  have HA := hide ha
  have HC := hide hcl
  clear ha hcl hr
  go_enter Try.func50, Try.ntmps50
  go_wp2_with fail
  go_loopw [5] (fun vi wr => ∃ k : Nat, k ≤ l.length ∧ vi = .int .i64 k ∧ Hid (wr = w ∧ ∀ j (h : j < l.length), j < k → l[j].1 ≠ n)) (fun vi _ => l.length - (intOf vi).toNat)
  case atStart => exact ⟨0, Nat.zero_le _, rfl, hide ⟨rfl, fun j h hj => absurd hj (by omega)⟩⟩
  case round =>
    obtain ⟨k, hk, rfl, HO⟩ := hrel
    obtain rfl := HO.out.1
    by_cases hlt : k < l.length
    · obtain rfl := HA.out (by omega)
      have hcx := (HC.out k hlt).1
      by_cases he : l[k].1 = n
      · have hx : Fnd l n k := Or.inr ⟨k, rfl, find_hit hlt he HO.out.2⟩
        have HX := hide hx
        clear hx
        generalize l[k].1 = x at hcx he
        subst he
        go_wp2_with fail
        go_ret
        exact ⟨⟨_, rfl, unhide HX⟩, rfl⟩
      · have hne := hide he
        have hs : ((⟨l[k].1.toArray⟩ : ByteArray).toList == (⟨n.toArray⟩ : ByteArray).toList) = false := by rw [str_same]; simp [he]
        have hs2 : (l[k].1 == n) = false := by simpa using he
        generalize hxx : l[k].1 = x at hcx he hs hs2
        have HX := hide hxx
        clear hxx
        go_wp2_with fail
        go_roundw
        case rel =>
          refine ⟨k + 1, by omega, by go_num, hide ⟨trivial, fun j h hj => ?_⟩⟩
          by_cases hjk : j = k
          · subst hjk; exact unhide hne
          · exact HO.out.2 j h (by omega)
        case measure => simp [intOf]; omega
    · go_wp2_with fail
      go_ret
      refine ⟨⟨_, rfl, Or.inl ⟨rfl, ?_⟩⟩, rfl⟩
      unfold hasF
      rw [List.any_eq_false]
      intro p hp
      obtain ⟨j, hj, rfl⟩ := List.mem_iff_getElem.1 hp
      simpa using HO.out.2 j hj (by omega)
set_option maxRecDepth 100000 in
/-- bytes: of a file; nothing of none. -/
theorem dbytes_any (l : Fs) (v : Value) (n : List UInt8) (w : World) (hr : Rf w v l) (hl : l.length ≤ 1000000) :
    Calls Try.prog 51 #[v, .string ⟨n.toArray⟩] w fun e w' => e = .returned (.string ⟨(get l n).toArray⟩) ∧ w' = w := by
  have hf := hide (dfind_any l v n w hr hl)
  obtain ⟨a, cap, g, rfl, hc, ha, hcl⟩ := hr.shape
  have HA := hide ha
  have HC := hide hcl
  clear ha hcl hr
  go_enter Try.func51, Try.ntmps51
  go_wp2_with fail
  refine (unhide hf).mono ?_
  rintro e w1 ⟨⟨i, rfl, hi⟩, hw⟩
  subst hw
  rcases hi with ⟨rfl, hno⟩ | ⟨k, rfl, hk, _, _, hg⟩
  · go_wp2_with fail
    go_ret
    rw [get_none hno]
    exact ⟨rfl, rfl⟩
  · obtain rfl := HA.out (by omega)
    have hcx := (HC.out k hk).2
    generalize l[k].2 = x at hcx hg
    have HG := hide hg
    clear hg
    go_wp2_with fail
    go_ret
    rw [unhide HG]
    exact ⟨rfl, rfl⟩
theorem Try.i66 : ∃ i, Try.prog.info? 66 = some i ∧ i.zero = some (.agg #[.string ⟨#[]⟩, .string ⟨#[]⟩]) ∧ i.size = 2 ∧ i.bytes = 32 := by
  have h : (Try.prog.info? 66).map (fun i => (i.zero, i.size, i.bytes)) = some (some (.agg #[.string ⟨#[]⟩, .string ⟨#[]⟩]), 2, 32) := by kernel_rfl
  obtain ⟨i, hi, hzz⟩ := Option.map_eq_some_iff.1 h
  simp only [Prod.mk.injEq] at hzz
  exact ⟨i, hi, hzz.1, hzz.2.1, hzz.2.2⟩
/-- A row of files that the call itself builds. -/
structure Ro (w W : World) (v : Value) (l : Fs) : Prop where
  own : W.ownsRow w.heap.size 66 2 v l.length (fcs l)
  bel : Bel w W
theorem Ro.rf {w W : World} {v : Value} {l : Fs} (h : Ro w W v l) : Rf W v l := by
  refine ⟨h.own.1, ?_⟩
  rcases h.own.2 with h' | ⟨g, cap, cur, h1, _, h2⟩
  · exact Or.inl h'
  · exact Or.inr ⟨g, cap, cur, h1, Nat.zero_le _, h2⟩
theorem Ro.fresh {w W : World} {v : Value} {l : Fs} (h : Ro w W v l) : ∀ k, v.ownBlock = some k → w.heap.size ≤ k := fun k hk => (h.own.lt k hk).1
/-- A file is put behind such a row. -/
theorem ro_push {ops : Array Oper} {rest : List Oper} {o : Oper} {a : Act} {Q : Exit → Act → World → Prop} {w W : World} {vo : Value} {out : Fs} (h : Ro w W vo out) (hb : out.length + 1 ≤ 1048577) (p : List UInt8 × List UInt8)
    (hgd : o.guard = none) (s x : Operand) (ho : o.op = .call { callee := .builtin .append, args := #[s, x], argTypes := #[31, 31] }) (hs : a.eval s = vo) (hx : a.eval x = .slice (some ⟨W.heap.size, 0, none⟩) 1 1)
    (hK : ∀ v' w', Ro w w' v' (out ++ [p]) → wpList Try.prog ops Q rest (a.put o.dst v') w') : wpList Try.prog ops Q (o :: rest) a (W.alloc (.cells #[.string ⟨p.1.toArray⟩, .string ⟨p.2.toArray⟩] 66)) := by
  obtain ⟨i0, hi, hz0, hz1, hz2⟩ := Try.i66
  have hBW : w.heap.size ≤ W.heap.size := h.bel.size
  refine wpList_append_lies (P := Try.prog) _ hgd s x 31 ho w.heap.size 66 i0 (.agg #[.string ⟨#[]⟩, .string ⟨#[]⟩]) 2 32 Try.underlying31 hi hz0 hz1 hz2 rfl (by decide) vo out.length (fcs out) hs (h.own.alloc _) ⟨W.heap.size, 0, none⟩ 1 1 [.string ⟨p.1.toArray⟩, .string ⟨p.2.toArray⟩] hx rfl (World.news_of_block (at_new W _)) (by simp [Value.oneCell']) (by decide) (by unfold maxLen; omega) (by omega) (Nat.le_trans hBW (by simp)) _ rfl ?_
  intro g cap w' hown hgrow _ _
  refine hK _ w' ⟨?_, (Below.alloc h.bel hBW _).grown hgrow (Nat.le_trans hBW (by simp)) (fun k hk => (h.own.lt k hk).1)⟩
  rw [fcs_app, List.length_append]
  exact hown
theorem del_snoc_ne {l : Fs} {n : List UInt8} {y : List UInt8 × List UInt8} (h : y.1 ≠ n) : del (l ++ [y]) n = del l n ++ [y] := by
  unfold del; rw [List.filter_append]; simp [h]
theorem del_snoc_eq {l : Fs} {n : List UInt8} {y : List UInt8 × List UInt8} (h : y.1 = n) : del (l ++ [y]) n = del l n := by
  unfold del; rw [List.filter_append]; simp [h]
theorem bb_less : ∀ x y : List UInt8, bytesBefore x y = Op.bytesLess x y
  | [], [] => rfl
  | [], _ :: _ => rfl
  | _ :: _, [] => rfl
  | a :: r, b :: s => by
    rw [bytesBefore, Op.bytesLess, bb_less r s]
theorem bb_asym {x y : List UInt8} (h : bytesBefore x y = true) : bytesBefore y x = false := by
  cases h2 : bytesBefore y x
  · rfl
  · exact absurd (WideShapes.bytes_trans _ _ _ h h2) (bb_irr _)
theorem fins_end {x : List UInt8 × List UInt8} : ∀ {m : Fs}, (∀ z ∈ m, bytesBefore z.1 x.1 = true) → fins x m = m ++ [x]
  | [], _ => rfl
  | z :: r, h => by
    unfold fins
    rw [if_neg (by rw [bb_asym (h z (by simp))]; simp), fins_end (fun y hy => h y (by simp [hy]))]
    rfl
theorem fins_snoc {x y : List UInt8 × List UInt8} (h : bytesBefore x.1 y.1 = true) : ∀ m : Fs, fins x (m ++ [y]) = fins x m ++ [y]
  | [] => by show fins x [y] = [x] ++ [y]; unfold fins; rw [if_pos h]; rfl
  | z :: r => by
    rw [List.cons_append]
    unfold fins
    split
    · rfl
    · rw [fins_snoc h r]; rfl
theorem take_del (l : Fs) (k : Nat) (n : List UInt8) (hl : l.length ≤ 100000) : (del (l.take k) n).length + 1 ≤ 1048577 := by
  have h1 := len_del (l.take k) n
  have h2 : (l.take k).length ≤ l.length := by rw [List.length_take]; omega
  omega
set_option maxRecDepth 100000 in
set_option maxHeartbeats 1000000 in
/-- gone: files without one. -/
theorem dgone_any (l : Fs) (v : Value) (n : List UInt8) (w : World) (hr : Rf w v l) (hl : l.length ≤ 100000) :
    Calls Try.prog 58 #[v, .string ⟨n.toArray⟩] w fun e w' => ∃ v', e = .returned v' ∧ Ro w w' v' (del l n) := by
  obtain ⟨a, cap, g, rfl, hc, ha, hcl⟩ := hr.shape
  have hgl : l.length ≠ 0 → g < w.heap.size := fun h => by have := ha h; subst this; exact (World.ownsRow.lt hr g rfl).2
  have HGL := hide hgl
  have HA := hide ha
  have HC := hide hcl
  clear ha hcl hr hgl
  go_enter Try.func58, Try.ntmps58
  go_wp2_with fail
  go_loopw [5, 6] (fun vo vi wr => ∃ k : Nat, k ≤ l.length ∧ vi = .int .i64 k ∧ Hid (Ro w wr vo (del (l.take k) n))) (fun _ vi _ => l.length - (intOf vi).toNat)
  case atStart => exact ⟨0, Nat.zero_le _, rfl, hide ⟨World.ownsRow_nil _ _ _ _, Bel.refl _⟩⟩
  case round =>
    obtain ⟨k, hk, rfl, HO⟩ := hrel
    by_cases hlt : k < l.length
    · have hwl := HGL.out (by omega)
      obtain rfl := HA.out (by omega)
      have hcx : wr.cell? ⟨g, k * 2, none⟩ = some (.string ⟨l[k].1.toArray⟩) := (HO.out.bel.cell hwl).trans (HC.out k hlt).1
      have hcy : wr.cell? ⟨g, k * 2 + 1, none⟩ = some (.string ⟨l[k].2.toArray⟩) := (HO.out.bel.cell hwl).trans (HC.out k hlt).2
      have htk := hide (List.take_succ_eq_append_getElem hlt)
      have hln : (del (l.take k) n).length + 1 ≤ 1048577 := take_del l k n hl
      by_cases he : l[k].1 = n
      · have hdel : Hid (del (l.take (k + 1)) n = del (l.take k) n) := by rw [unhide htk]; exact del_snoc_eq he
        generalize l[k].1 = x at hcx he
        subst he
        go_wp2_with fail
        go_roundw
        case rel => exact ⟨k + 1, by omega, by go_num, by rw [unhide hdel]; exact HO⟩
        case measure => simp [intOf]; omega
      · have hdel : Hid (del (l.take (k + 1)) n = del (l.take k) n ++ [l[k]]) := by rw [unhide htk]; exact del_snoc_ne he
        have hs : ((⟨l[k].1.toArray⟩ : ByteArray).toList == (⟨n.toArray⟩ : ByteArray).toList) = false := by rw [str_same]; simp [he]
        have hs2 : (l[k].1 == n) = false := by simpa using he
        generalize l[k] = y at hcx hcy hdel he hs hs2
        obtain ⟨y1, y2⟩ := y
        simp only at hcx hcy he hs hs2
        clear htk
        go_wp2_with (first | (at_builtin; refine ro_push (unhide HO) hln (y1, y2) rfl _ _ rfl rfl rfl ?_; intro v' w3 hro; go_frame) | go_in)
        go_roundw
        case rel => exact ⟨k + 1, by omega, by go_num, by rw [unhide hdel]; exact hro⟩
        case measure => simp [intOf]; omega
    · obtain rfl : k = l.length := by omega
      have HO2 := unhide HO
      rw [List.take_length] at HO2
      have HO3 := hide HO2
      clear HO2
      go_wp2_with fail
      go_ret
      exact ⟨_, rfl, unhide HO3⟩
end Go.Proofs.Ytpngcmlaimcceaa
