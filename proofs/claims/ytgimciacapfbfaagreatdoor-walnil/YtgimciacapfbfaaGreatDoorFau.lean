/- What is wrong ahead of all else: the program's fault; find, Read, Used, Loose; New. -/
import Derived.Test.YtgimciacapfbfaaGreatDoorClo
import Derived.Laws.ResultCell
import Derived.Laws.Rows
namespace Go.Proofs.YtgimciacapfbfaaGreatDoor
open Go.RowKit Go.Maps Go.WideMaps
theorem str_empty (x : List UInt8) : ((⟨x.toArray⟩ : ByteArray).toList == (⟨#[]⟩ : ByteArray).toList) = decide (x = []) := by
  cases x <;> simp [ByteArray.toList_eq]
set_option maxRecDepth 100000 in
theorem fault_nil (v : Value) (w : World) : Calls Tryz.prog 29 #[.pointer none, v] w fun e w' => e = .returned (.int .i64 1) ∧ w' = w := by
  go_enter Tryz.func29, Tryz.ntmps29
  go_wp2_with fail
  go_ret
  exact ⟨rfl, rfl⟩
/-- What fault answers. -/
def fR (ns : List (List UInt8)) : Int := if ns.any badN then 2 else 0
theorem mapnil (b : Nat) (W : World) : (binOp BinOp.eql 47 (Value.map (some b)) (Value.map none)).run Tryz.prog W = .ok (.bool false) W := by kernel_rfl
set_option maxRecDepth 100000 in
theorem fault_any (p bs : Nat) (g : Nat) (a : Option Addr) (ns : List (List UInt8)) (N cap : Nat) (hN : ns.length = N) (hlen : N ≤ 1000) (w : World) (hp : w.cell? ⟨p, 2, none⟩ = some (.map (some bs))) (ha : N ≠ 0 → a = some ⟨g, 0, none⟩) (hc : ∀ j (h : j < ns.length), w.cell? ⟨g, j, none⟩ = some (.string ⟨ns[j].toArray⟩)) (hm : ∀ x ∈ ns, x.length ≤ maxLen) :
    Calls Tryz.prog 29 #[.pointer (some ⟨p, 0, none⟩), .slice a N cap] w fun e w' => e = .returned (.int .i64 (fR ns)) ∧ w' = w := by
  have HN := hide hN
  have HC := hide hc
  have HA := hide ha
  have HM := hide hm
  clear hN hc ha hm
  have hmn := mapnil
  go_enter Tryz.func29, Tryz.ntmps29
  go_wp2_with fail
  go_loopw [6, 18] (fun _ vi wr => ∃ k : Nat, k ≤ N ∧ vi = .int .i64 k ∧ Hid (wr = w ∧ (ns.take k).any badN = false)) (fun _ vi _ => N - (intOf vi).toNat)
  case atStart => exact ⟨0, Nat.zero_le _, rfl, hide ⟨rfl, rfl⟩⟩
  case round =>
    obtain ⟨k, hk, rfl, HO⟩ := hrel
    obtain rfl := HO.out.1
    by_cases hlt : k < N
    · have hkl : k < ns.length := by rw [HN.out]; exact hlt
      have hcx := HC.out k hkl
      obtain rfl := HA.out (by omega)
      have hbd : Hid (badN ns[k] = true ∨ badN ns[k] = false) := by cases badN ns[k]; exact Or.inr rfl; exact Or.inl rfl
      have hml := HM.out ns[k] (List.getElem_mem hkl)
      generalize hx : ns[k] = x at hcx hbd hml
      have Hx := hide hx
      clear hx
      by_cases he : x = []
      · subst he
        go_wp2_with fail
        go_ret
        refine ⟨?_, rfl⟩
        rw [show fR ns = 2 from if_pos (List.any_eq_true.2 ⟨[], by rw [← Hx.out]; exact List.getElem_mem hkl, rfl⟩)]
        rfl
      · have hne : ((⟨x.toArray⟩ : ByteArray).toList == (⟨#[]⟩ : ByteArray).toList) = false := by rw [str_empty]; simp [he]
        have Hne := hide he
        have hie : x.isEmpty = false := by cases x; exact absurd rfl he; rfl
        by_cases hl : 128 < x.length
        · go_wp2_with fail
          go_ret
          refine ⟨?_, rfl⟩
          rw [show fR ns = 2 from if_pos (List.any_eq_true.2 ⟨x, by rw [← Hx.out]; exact List.getElem_mem hkl, by unfold badN; exact decide_eq_true (Or.inr hl)⟩)]
          rfl
        · have hl' : (x.length : Int) ≤ 128 := by omega
          go_wp2_with fail
          go_roundw
          case rel =>
            refine ⟨k + 1, by omega, by go_num, hide ⟨trivial, ?_⟩⟩
            rw [List.take_succ_eq_append_getElem hkl, Hx.out, List.any_append, HO.out.2]
            have : badN x = false := by unfold badN; exact decide_eq_false (fun h => h.elim Hne.out hl)
            simp [this]
          case measure => simp [intOf]; omega
    · go_wp2_with fail
      go_ret
      refine ⟨?_, rfl⟩
      have : ns.any badN = false := by
        have := HO.out.2
        rw [List.take_of_length_le (by rw [HN.out]; omega)] at this
        exact this
      rw [show fR ns = 0 from if_neg (by rw [this]; simp)]
      rfl
/-- What find answers: the bytes, and what is wrong. -/
def findR (seen : Fs) (n : List UInt8) (ns : List (List UInt8)) : List UInt8 × Int := if fR ns = 0 then (if hasF seen n then (get seen n, 0) else ([], 5)) else ([], fR ns)
theorem Tryz.i9 : ∃ i, Tryz.prog.info? 9 = some i ∧ i.zero = some (.string ⟨#[]⟩) ∧ i.size = 1 ∧ i.bytes = 16 := by
  have h : (Tryz.prog.info? 9).map (fun i => (i.zero, i.size, i.bytes)) = some (some (.string ⟨#[]⟩), 1, 16) := by kernel_rfl
  obtain ⟨i, hi, hzz⟩ := Option.map_eq_some_iff.1 h
  simp only [Prod.mk.injEq] at hzz
  exact ⟨i, hi, hzz.1, hzz.2.1, hzz.2.2⟩
theorem at_new2 (w : World) (o o' : Obj) : ((w.alloc o).alloc o').heap[w.heap.size + 1]? = some o' := by
  have := at_new (w.alloc o) o'
  have e : (w.alloc o).heap.size = w.heap.size + 1 := by simp
  rw [e] at this
  exact this
/-- A file and what is wrong, returned. -/
theorem ret69 {a : Act} {W : World} {g : Nat} {b : List UInt8} {Q : Ending → World → Prop} {c : Value} (h6 : a.tmps.getD 6 undef = .pointer (some ⟨g, 0, none⟩)) (h7 : a.tmps.getD 7 undef = c) (hd : a.defers = []) (hg : W.heap[g]? = some (.cells #[.string ⟨b.toArray⟩] 70))
    (h : Q (.returned (.tuple #[.agg #[.string ⟨b.toArray⟩], c])) W) : bodyPost Tryz.prog Tryz.f44 Q .ret a W := by
  refine bodyPost_ret (v := .tuple #[.agg #[.string ⟨b.toArray⟩], c]) ?_ hd h
  rw [results_cell_tmp (p := 6) (u := 7) (ty := 70) rfl, h6, h7]
  simp [asAddr, run_loadVar_row W g 70 70 _ (0, 0) _ hg Tryz.underlying70 rfl (by kernel_rfl), Result.andThen]
theorem unhide {p : Prop} (h : Hid p) : p := h
theorem find_mid {p bs g cap : Nat} {c : Array Value} {n : List UInt8} {v : Value} {os : List (List UInt8)} {w w1 : World} {o2 : Array Value} {r : Int} (hp : w.heap[p]? = some (.cells c 50)) (hc2 : c[2]? = some (.map (some bs))) (hv : w.ownsRow 0 9 1 v os.length (os.map fun x => .string ⟨x.toArray⟩)) (hvp : v.ownBlock ≠ some p) (hos : ∀ x ∈ os, x.length ≤ maxLen) (hn : n.length ≤ maxLen) (hol : os.length ≤ 100) (hr : fR (os ++ [n]) = r) (hown : w1.ownsRow 0 9 1 (.slice (some ⟨g, 0, none⟩) (os.length + 1) cap) (os.length + 1) ((os.map fun x => .string ⟨x.toArray⟩) ++ [.string ⟨n.toArray⟩]))
    (hgrow : ((w.alloc (.cells #[.string ⟨#[]⟩] 70)).alloc (.cells o2 9)).grownBy w1 v.ownBlock) :
    Hid (Ch (fun i => v.ownBlock = some i) w w1) ∧ Hid (Calls Tryz.prog 29 #[.pointer (some ⟨p, 0, none⟩), .slice (some ⟨g, 0, none⟩) (os.length + 1) cap] w1 fun e w' => e = .returned (.int .i64 r) ∧ w' = w1) ∧
      w1.cell? ⟨p, 2, none⟩ = some (.map (some bs)) ∧ w1.cell? ⟨w.heap.size, 0, none⟩ = some (.string ⟨#[]⟩) ∧ w1.frozen? ⟨w.heap.size, 0, none⟩ = false ∧ (∀ o, (w1.alloc o).cell? ⟨w.heap.size, 0, none⟩ = some (.string ⟨#[]⟩)) ∧ (∀ o, (w1.alloc o).frozen? ⟨w.heap.size, 0, none⟩ = false) ∧ Hid (w1.heap[w.heap.size]? = some (.cells #[.string ⟨#[]⟩] 70)) := by
  have hch : Ch (fun i => v.ownBlock = some i) w w1 := (((Ch.refl _ w).alloc _).alloc _).grown hgrow (fun i hi => Or.inl hi)
  have hp1 := hch.row hp hvp
  have hcp : w1.cell? ⟨p, 2, none⟩ = some (.map (some bs)) := (cell_of hp1).trans hc2
  have hb : w1.heap[w.heap.size]? = some (.cells #[.string ⟨#[]⟩] 70) := by
    rw [hgrow.block w.heap.size (by simp; omega) (fun e => by have := (hv.lt _ e.symm).2; omega)]
    exact ((Bel.refl _).alloc _).row (at_new w _)
  refine ⟨hch, ?_, hcp, cell_of hb, free_row hb, fun o => cell_of (((Bel.refl _).alloc o).row hb), fun o => free_row (((Bel.refl _).alloc o).row hb), hb⟩
  have := fault_any p bs g (some ⟨g, 0, none⟩) (os ++ [n]) (os.length + 1) cap (by simp) (by omega) w1 hcp (fun _ => rfl) (fun j hj => ?_) (fun x hx => ?_)
  · rw [hr] at this; exact this
  · have h1 := hown.cellAt j (by simp at hj; omega)
    rw [h1]
    have : ((os.map fun x => Value.string ⟨x.toArray⟩) ++ [Value.string ⟨n.toArray⟩]) = (os ++ [n]).map fun x => Value.string ⟨x.toArray⟩ := by simp
    rw [this, List.getElem?_map, List.getElem?_eq_getElem hj]
    rfl
  · rcases List.mem_append.1 hx with h | h
    · exact hos x h
    · rw [List.mem_singleton.1 h]; exact hn
set_option maxRecDepth 100000 in
set_option maxHeartbeats 1000000 in
theorem find_any (p bs : Nat) (l : Fs) (c : Array Value) (n : List UInt8) (v : Value) (os : List (List UInt8)) (w : World) (hp : w.heap[p]? = some (.cells c 50)) (hc2 : c[2]? = some (.map (some bs))) (hM : Mp w bs l) (hv : w.ownsRow 0 9 1 v os.length (os.map fun x => .string ⟨x.toArray⟩)) (hvp : v.ownBlock ≠ some p) (hn : n.length ≤ maxLen) (hos : ∀ x ∈ os, x.length ≤ maxLen) (hol : os.length ≤ 100) :
    Calls Tryz.prog 44 #[.pointer (some ⟨p, 0, none⟩), .string ⟨n.toArray⟩, v] w fun e w' => e = .returned (.tuple #[.agg #[.string ⟨(findR l n (os ++ [n])).1.toArray⟩], .int .i64 (findR l n (os ++ [n])).2]) ∧ Ch (fun i => v.ownBlock = some i) w w' := by
  obtain ⟨i0, hi, hz0, hz1, hz2⟩ := Tryz.i9
  have HOS := hide hos
  have HV := hide hv
  have HM := hide hM
  clear hos hv hM
  have hbs : ¬ v.ownBlock = some bs := fun e => by
    rcases HV.out.2 with ⟨rfl, _⟩ | ⟨g, cap, cur, rfl, _, hg, _⟩
    · cases e
    · cases e; exact HM.out.ne_row hg rfl
  have hmn := mapnil
  have hfz : Hid (p < w.heap.size) := lt_of_some hp
  obtain ⟨r, hr⟩ : ∃ r, fR (os ++ [n]) = r := ⟨_, rfl⟩
  obtain ⟨q, hq⟩ : ∃ q, hasF l n = q := ⟨_, rfl⟩
  have HR := hide hr
  have HQ := hide hq
  unfold findR
  rw [hr, hq]
  clear hr hq
  go_enter Tryz.func44, Tryz.ntmps44
  by_cases h0 : r = 0
  · subst h0
    rw [if_pos rfl]
    cases q
    · rw [if_neg (by simp)]
      go_wp2_with (first
        | (at_builtin; refine wpList_append_lies _ rfl _ _ 22 rfl 0 9 i0 (.string ⟨#[]⟩) 1 16 Tryz.underlying22 hi hz0 hz1 hz2 rfl (by decide) v os.length _ rfl ((HV.out.alloc _).alloc _) ⟨w.heap.size + 1, 0, none⟩ 1 1 [.string ⟨n.toArray⟩] rfl rfl (World.news_of_block (at_new2 w _ _)) (by simp [Value.oneCell']) (by decide) (by unfold maxLen; omega) (by omega) (Nat.zero_le _) (w.heap.size + 2) (by simp) ?_; intro g cap w1 hown hgrow hat hlt; obtain ⟨hch, hfl, c1, c2, c3, c4, c5, c6⟩ := find_mid hp hc2 HV.out hvp HOS.out hn hol HR.out hown hgrow)
        | (go_at_call 29; refine (unhide hfl).mono ?_; rintro e w2 ⟨rfl, rfl⟩)
        | (at_lookup; refine wpList_look_ok _ rfl _ _ rfl bs l rfl (HM.out.ch (unhide hch) hbs) n hn rfl ?_; rw [HQ.out])
        | go_in)
      refine ret69 (g := w.heap.size) rfl rfl rfl (row_set (((Bel.refl _).alloc _).row (unhide c6))) ⟨rfl, ((unhide hch).alloc _).set (Or.inr (Nat.le_refl _)) _⟩
    · rw [if_pos (by simp)]
      go_wp2_with (first
        | (at_builtin; refine wpList_append_lies _ rfl _ _ 22 rfl 0 9 i0 (.string ⟨#[]⟩) 1 16 Tryz.underlying22 hi hz0 hz1 hz2 rfl (by decide) v os.length _ rfl ((HV.out.alloc _).alloc _) ⟨w.heap.size + 1, 0, none⟩ 1 1 [.string ⟨n.toArray⟩] rfl rfl (World.news_of_block (at_new2 w _ _)) (by simp [Value.oneCell']) (by decide) (by unfold maxLen; omega) (by omega) (Nat.zero_le _) (w.heap.size + 2) (by simp) ?_; intro g cap w1 hown hgrow hat hlt; obtain ⟨hch, hfl, c1, c2, c3, c4, c5, c6⟩ := find_mid hp hc2 HV.out hvp HOS.out hn hol HR.out hown hgrow)
        | (go_at_call 29; refine (unhide hfl).mono ?_; rintro e w2 ⟨rfl, rfl⟩)
        | (at_lookup; refine wpList_look_ok _ rfl _ _ rfl bs l rfl (HM.out.ch (unhide hch) hbs) n hn rfl ?_; rw [HQ.out])
        | go_in)
      refine ret69 (g := w.heap.size) rfl rfl rfl (row_set (((Bel.refl _).alloc _).row (unhide c6))) ⟨rfl, ((unhide hch).alloc _).set (Or.inr (Nat.le_refl _)) _⟩
  · rw [if_neg h0]
    go_wp2_with (first
      | (at_builtin; refine wpList_append_lies _ rfl _ _ 22 rfl 0 9 i0 (.string ⟨#[]⟩) 1 16 Tryz.underlying22 hi hz0 hz1 hz2 rfl (by decide) v os.length _ rfl ((HV.out.alloc _).alloc _) ⟨w.heap.size + 1, 0, none⟩ 1 1 [.string ⟨n.toArray⟩] rfl rfl (World.news_of_block (at_new2 w _ _)) (by simp [Value.oneCell']) (by decide) (by unfold maxLen; omega) (by omega) (Nat.zero_le _) (w.heap.size + 2) (by simp) ?_; intro g cap w1 hown hgrow hat hlt; obtain ⟨hch, hfl, c1, c2, c3, c4, c5, c6⟩ := find_mid hp hc2 HV.out hvp HOS.out hn hol HR.out hown hgrow)
      | (go_at_call 29; refine (unhide hfl).mono ?_; rintro e w2 ⟨rfl, rfl⟩)
      | (at_lookup; refine wpList_look_ok _ rfl _ _ rfl bs l rfl (HM.out.ch (unhide hch) hbs) n hn rfl ?_; rw [HQ.out])
      | go_in)
    refine ret69 (g := w.heap.size) (b := []) rfl rfl rfl (row_set (unhide c6)) ⟨rfl, (unhide hch).set (Or.inr (Nat.le_refl _)) _⟩
end Go.Proofs.YtgimciacapfbfaaGreatDoor
