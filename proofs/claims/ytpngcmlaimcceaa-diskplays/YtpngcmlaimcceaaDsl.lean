/- One call of both disks: the law's does. -/
import Derived.Test.YtpngcmlaimcceaaSta
import Derived.Test.YtpngcmlaimcceaaPtr
import Derived.Test.YtpngcmlaimcceaaDof
import Derived.Test.YtpngcmlaimcceaaDog
import Derived.Test.YtpngcmlaimcceaaDoh
import Derived.Test.YtpngcmlaimcceaaDoi
import Derived.Test.YtpngcmlaimcceaaDoj
import Derived.Test.YtpngcmlaimcceaaDok
namespace Go.Proofs.Ytpngcmlaimcceaa
open Go.RowKit Go.Maps Go.WideMaps
set_option linter.unusedVariables false
/-- No thing's text is longer than C. -/
def Tx (C : Nat) (d : PD) : Prop := ∀ o ∈ d.ops, (oT o).length ≤ C
theorem txt_le (o : Op5) : (txt5 o).length ≤ (oT o).length := by cases o using Op5.on <;> simp [txt5, oT]
theorem Tx.mono {C C' : Nat} {d : PD} (h : Tx C d) (hc : C ≤ C') : Tx C' d := fun o ho => Nat.le_trans (h o ho) hc
theorem Tx.done {C : Nat} {d : PD} {o : Op5} (h : Tx C d) (ho : (oT o).length ≤ C) : Tx C (d.done o).2 := fun x hx => by
  rcases List.mem_append.1 (show x ∈ d.ops ++ [o] from hx) with h' | h'
  · exact h x h'
  · rw [List.mem_singleton.1 h']; exact ho
/-- What a call leaves of the plain disk. -/
def Nx (C' : Nat) (d d' : PD) : Prop := d'.ops.length ≤ d.ops.length + 1 ∧ Tx C' d'
theorem nx_same {C C' : Nat} {d : PD} (h : Tx C d) (hc : C ≤ C') : Nx C' d d := ⟨Nat.le_succ _, h.mono hc⟩
theorem nx_done {C C' : Nat} {d : PD} {o : Op5} (h : Tx C d) (hc : C ≤ C') (ho : (oT o).length ≤ C') : Nx C' d (d.done o).2 := ⟨by simp [PD.done], (h.mono hc).done ho⟩
theorem nx_grow {C C' : Nat} {d : PD} {n : List UInt8} {more : Int} {o : Op5} (h : Tx C d) (hc : C ≤ C') (ho : (oT o).length ≤ C') : Nx C' d (d.grow n more o).2 := by
  unfold PD.grow
  split
  · exact nx_same h hc
  · exact nx_done h hc ho
theorem nx_app {C : Nat} {d : PD} {n t : List UInt8} (h : Tx C d) : Nx (C + 2 * t.length) d (d.app n t).2 := by
  unfold PD.app
  split
  · exact nx_same h (by omega)
  · exact nx_grow h (by omega) (by show t.length ≤ _; omega)
theorem nx_wr {C : Nat} {d : PD} {n t : List UInt8} (h : Tx C d) : Nx (C + 2 * t.length) d (d.wr n t).2 := by
  unfold PD.wr
  split
  · exact nx_same h (by omega)
  · exact nx_grow h (by omega) (by show t.length ≤ _; omega)
theorem nx_tr {C : Nat} {d : PD} {n t : List UInt8} {k : Int} (h : Tx C d) : Nx (C + 2 * t.length) d (d.tr n k).2 := by
  unfold PD.tr
  repeat' split
  all_goals first | exact nx_same h (by omega) | exact nx_done h (by omega) (Nat.zero_le _)
theorem nx_ren {C : Nat} {d : PD} {n t : List UInt8} (h : Tx C d) : Nx (C + 2 * t.length) d (d.ren n t).2 := by
  unfold PD.ren
  repeat' split
  all_goals first | exact nx_same h (by omega) | exact nx_done h (by omega) (by show t.length ≤ _; omega)
theorem nx_rm {C : Nat} {d : PD} {n t : List UInt8} (h : Tx C d) : Nx (C + 2 * t.length) d (d.rm n).2 := by
  unfold PD.rm
  repeat' split
  all_goals first | exact nx_same h (by omega) | exact nx_done h (by omega) (Nat.zero_le _)
theorem nx_crash {C : Nat} {d : PD} {t : List UInt8} {k m : Int} (h : Tx C d) : Nx (C + 2 * t.length) d (d.crash k m).2 := by
  unfold PD.crash
  split
  · exact nx_same h (by omega)
  · exact ⟨Nat.zero_le _, fun o ho => by cases ho⟩
set_option maxRecDepth 100000 in
set_option maxHeartbeats 4000000 in
theorem ld_app {C : Nat} {G : Nat → Prop} {w : World} {pd px : Nat} {d : PD} (h : Pr C G w pd px d d) (n t : List UInt8) (k m : Int) (hn : n.length ≤ maxLen) (ht : t.length ≤ maxLen) (htl : t.length ≤ 16384) (hk1 : k < 9223372036854775808) (hm1 : m < 9223372036854775808) (hol : d.ops.length ≤ 1000) (hC : C ≤ 100000000) (htx : Tx C d) :
    Calls Try.prog 9 #[.pointer (some ⟨pd, 0, none⟩), .pointer (some ⟨px, 0, none⟩), .agg #[.int .i64 1, .string ⟨n.toArray⟩, .string ⟨t.toArray⟩, .int .i64 k, .int .i64 m]] w fun e w' => e = .returned (.bool true) ∧ ∃ d', Pr (C + 2 * t.length) G w' pd px d' d' ∧ Kp G w w' ∧ Nx (C + 2 * t.length) d d' := by
  have hfu := Try.follows
  obtain ⟨W0, hW0⟩ : ∃ W0, W0 = w.alloc (.cells #[.int .i64 1, .string ⟨n.toArray⟩, .string ⟨t.toArray⟩, .int .i64 k, .int .i64 m] 28) := ⟨_, rfl⟩
  have hb0 : Bel w W0 := by rw [hW0]; exact (Bel.refl w).alloc _
  have hsz : W0.heap.size = w.heap.size + 1 := by rw [hW0]; simp
  have hrow : W0.heap[w.heap.size]? = some (.cells #[.int .i64 1, .string ⟨n.toArray⟩, .string ⟨t.toArray⟩, .int .i64 k, .int .i64 m] 28) := by rw [hW0]; exact at_new w _
  have hG : Pr C (fun i => G i ∨ i = w.heap.size) W0 pd px d d := (h.more hb0).less (fun i hi => hi.elim Or.inl (fun e => Or.inr (by omega)))
  have HTX : Hid (∀ o ∈ d.ops, (oT o).length ≤ C) := htx
  have HTP : Hid (∀ o ∈ d.ops, (txt5 o).length ≤ C) := fun o ho => Nat.le_trans (txt_le o) (htx o ho)
  have HK0 : Hid (Kp G w W0.drew) := hb0.drew.kp h.lt
  have hp1 := hide (Pr.call1 (hG.bel (Bel.refl W0).drew).1 (C' := C + t.length) (by omega) (fun M B hd => append_any hd n t hn (by omega) (by omega)))
  have hp2 := hide (fun (W : World) (x1 : PD) (hp : Pr (C + t.length) (fun i => G i ∨ i = w.heap.size) W pd px x1 d) => Pr.call2 hp (C' := C + t.length + t.length) (by omega) (fun M B hx => ddo_app hx n t (by omega) (by omega)))
  have hnx := hide (nx_app (n := n) (t := t) htx)
  have HROW := hide hrow
  have HW0 := hide hW0
  have HSZ := hide hsz
  have s1 : W0.cell? ⟨w.heap.size, 1, none⟩ = some (.string ⟨n.toArray⟩) := cell_of (unhide HROW)
  have s2 : W0.cell? ⟨w.heap.size, 2, none⟩ = some (.string ⟨t.toArray⟩) := cell_of (unhide HROW)
  clear hrow hW0 hsz hG h htx hb0 hk1 hm1
  go_enter Try.func9, Try.ntmps9
  go_wp2_with fail
  rw [← unhide HW0]
  go_region_held3 (fun W => W.cell? ⟨w.heap.size, 1, none⟩ = some (.string ⟨n.toArray⟩) ∧ W.cell? ⟨w.heap.size, 2, none⟩ = some (.string ⟨t.toArray⟩)) (first | exact ⟨z1, z2⟩ | exact ⟨y1, y2⟩ | exact ⟨s1, s2⟩) ((first
    | (go_at_call 21; refine (unhide hp1).mono ?_; rintro e w2 ⟨rfl, hpr2, hkp2⟩; have hr2 := hkp2.row (Or.inr rfl) (unhide HROW); have y1 : w2.cell? ⟨w.heap.size, 1, none⟩ = some (.string ⟨n.toArray⟩) := cell_of hr2; have y2 : w2.cell? ⟨w.heap.size, 2, none⟩ = some (.string ⟨t.toArray⟩) := cell_of hr2; have HPR := hide hpr2; have HKP := hide hkp2; have HR2 := hide hr2; clear hpr2 hkp2 hr2)
    | (go_at_call 28; refine ((unhide hp2) _ _ (unhide HPR)).mono ?_; rintro e w3 ⟨rfl, hpr3, hkp3⟩; have hr3 := hkp3.row (Or.inr rfl) (unhide HR2); have z1 : w3.cell? ⟨w.heap.size, 1, none⟩ = some (.string ⟨n.toArray⟩) := cell_of hr3; have z2 : w3.cell? ⟨w.heap.size, 2, none⟩ = some (.string ⟨t.toArray⟩) := cell_of hr3; have HPR3 := hide hpr3; have HKP3 := hide hkp3; clear hpr3 hkp3 hr3)))
  go_wp2_with fail
  go_ret
  exact ⟨rfl, _, ((unhide HPR3).less (fun i hi => Or.inl hi)).mono (by omega), ((unhide HK0).trans ((unhide HKP).less (fun i hi => Or.inl hi))).trans ((unhide HKP3).less (fun i hi => Or.inl hi)), unhide hnx⟩
set_option maxRecDepth 100000 in
set_option maxHeartbeats 4000000 in
theorem ld_wr {C : Nat} {G : Nat → Prop} {w : World} {pd px : Nat} {d : PD} (h : Pr C G w pd px d d) (n t : List UInt8) (k m : Int) (hn : n.length ≤ maxLen) (ht : t.length ≤ maxLen) (htl : t.length ≤ 16384) (hk1 : k < 9223372036854775808) (hm1 : m < 9223372036854775808) (hol : d.ops.length ≤ 1000) (hC : C ≤ 100000000) (htx : Tx C d) :
    Calls Try.prog 9 #[.pointer (some ⟨pd, 0, none⟩), .pointer (some ⟨px, 0, none⟩), .agg #[.int .i64 2, .string ⟨n.toArray⟩, .string ⟨t.toArray⟩, .int .i64 k, .int .i64 m]] w fun e w' => e = .returned (.bool true) ∧ ∃ d', Pr (C + 2 * t.length) G w' pd px d' d' ∧ Kp G w w' ∧ Nx (C + 2 * t.length) d d' := by
  have hfu := Try.follows
  obtain ⟨W0, hW0⟩ : ∃ W0, W0 = w.alloc (.cells #[.int .i64 2, .string ⟨n.toArray⟩, .string ⟨t.toArray⟩, .int .i64 k, .int .i64 m] 28) := ⟨_, rfl⟩
  have hb0 : Bel w W0 := by rw [hW0]; exact (Bel.refl w).alloc _
  have hsz : W0.heap.size = w.heap.size + 1 := by rw [hW0]; simp
  have hrow : W0.heap[w.heap.size]? = some (.cells #[.int .i64 2, .string ⟨n.toArray⟩, .string ⟨t.toArray⟩, .int .i64 k, .int .i64 m] 28) := by rw [hW0]; exact at_new w _
  have hG : Pr C (fun i => G i ∨ i = w.heap.size) W0 pd px d d := (h.more hb0).less (fun i hi => hi.elim Or.inl (fun e => Or.inr (by omega)))
  have HTX : Hid (∀ o ∈ d.ops, (oT o).length ≤ C) := htx
  have HTP : Hid (∀ o ∈ d.ops, (txt5 o).length ≤ C) := fun o ho => Nat.le_trans (txt_le o) (htx o ho)
  have HK0 : Hid (Kp G w W0.drew) := hb0.drew.kp h.lt
  have hp1 := hide (Pr.call1 (hG.bel (Bel.refl W0).drew).1 (C' := C + t.length) (by omega) (fun M B hd => write_any hd n t hn (by omega) (by omega)))
  have hp2 := hide (fun (W : World) (x1 : PD) (hp : Pr (C + t.length) (fun i => G i ∨ i = w.heap.size) W pd px x1 d) => Pr.call2 hp (C' := C + t.length + t.length) (by omega) (fun M B hx => ddo_wr hx n t (by omega) (by omega)))
  have hnx := hide (nx_wr (n := n) (t := t) htx)
  have HROW := hide hrow
  have HW0 := hide hW0
  have HSZ := hide hsz
  have s1 : W0.cell? ⟨w.heap.size, 1, none⟩ = some (.string ⟨n.toArray⟩) := cell_of (unhide HROW)
  have s2 : W0.cell? ⟨w.heap.size, 2, none⟩ = some (.string ⟨t.toArray⟩) := cell_of (unhide HROW)
  clear hrow hW0 hsz hG h htx hb0 hk1 hm1
  go_enter Try.func9, Try.ntmps9
  go_wp2_with fail
  rw [← unhide HW0]
  go_region_held3 (fun W => W.cell? ⟨w.heap.size, 1, none⟩ = some (.string ⟨n.toArray⟩) ∧ W.cell? ⟨w.heap.size, 2, none⟩ = some (.string ⟨t.toArray⟩)) (first | exact ⟨z1, z2⟩ | exact ⟨y1, y2⟩ | exact ⟨s1, s2⟩) ((first
    | (go_at_call 19; refine (unhide hp1).mono ?_; rintro e w2 ⟨rfl, hpr2, hkp2⟩; have hr2 := hkp2.row (Or.inr rfl) (unhide HROW); have y1 : w2.cell? ⟨w.heap.size, 1, none⟩ = some (.string ⟨n.toArray⟩) := cell_of hr2; have y2 : w2.cell? ⟨w.heap.size, 2, none⟩ = some (.string ⟨t.toArray⟩) := cell_of hr2; have HPR := hide hpr2; have HKP := hide hkp2; have HR2 := hide hr2; clear hpr2 hkp2 hr2)
    | (go_at_call 28; refine ((unhide hp2) _ _ (unhide HPR)).mono ?_; rintro e w3 ⟨rfl, hpr3, hkp3⟩; have hr3 := hkp3.row (Or.inr rfl) (unhide HR2); have z1 : w3.cell? ⟨w.heap.size, 1, none⟩ = some (.string ⟨n.toArray⟩) := cell_of hr3; have z2 : w3.cell? ⟨w.heap.size, 2, none⟩ = some (.string ⟨t.toArray⟩) := cell_of hr3; have HPR3 := hide hpr3; have HKP3 := hide hkp3; clear hpr3 hkp3 hr3)))
  go_wp2_with fail
  go_ret
  exact ⟨rfl, _, ((unhide HPR3).less (fun i hi => Or.inl hi)).mono (by omega), ((unhide HK0).trans ((unhide HKP).less (fun i hi => Or.inl hi))).trans ((unhide HKP3).less (fun i hi => Or.inl hi)), unhide hnx⟩
set_option maxRecDepth 100000 in
set_option maxHeartbeats 4000000 in
theorem ld_tr {C : Nat} {G : Nat → Prop} {w : World} {pd px : Nat} {d : PD} (h : Pr C G w pd px d d) (n t : List UInt8) (k m : Int) (hn : n.length ≤ maxLen) (ht : t.length ≤ maxLen) (htl : t.length ≤ 16384) (hk1 : k < 9223372036854775808) (hm1 : m < 9223372036854775808) (hol : d.ops.length ≤ 1000) (hC : C ≤ 100000000) (htx : Tx C d) :
    Calls Try.prog 9 #[.pointer (some ⟨pd, 0, none⟩), .pointer (some ⟨px, 0, none⟩), .agg #[.int .i64 3, .string ⟨n.toArray⟩, .string ⟨t.toArray⟩, .int .i64 k, .int .i64 m]] w fun e w' => e = .returned (.bool true) ∧ ∃ d', Pr (C + 2 * t.length) G w' pd px d' d' ∧ Kp G w w' ∧ Nx (C + 2 * t.length) d d' := by
  have hfu := Try.follows
  obtain ⟨W0, hW0⟩ : ∃ W0, W0 = w.alloc (.cells #[.int .i64 3, .string ⟨n.toArray⟩, .string ⟨t.toArray⟩, .int .i64 k, .int .i64 m] 28) := ⟨_, rfl⟩
  have hb0 : Bel w W0 := by rw [hW0]; exact (Bel.refl w).alloc _
  have hsz : W0.heap.size = w.heap.size + 1 := by rw [hW0]; simp
  have hrow : W0.heap[w.heap.size]? = some (.cells #[.int .i64 3, .string ⟨n.toArray⟩, .string ⟨t.toArray⟩, .int .i64 k, .int .i64 m] 28) := by rw [hW0]; exact at_new w _
  have hG : Pr C (fun i => G i ∨ i = w.heap.size) W0 pd px d d := (h.more hb0).less (fun i hi => hi.elim Or.inl (fun e => Or.inr (by omega)))
  have HTX : Hid (∀ o ∈ d.ops, (oT o).length ≤ C) := htx
  have HTP : Hid (∀ o ∈ d.ops, (txt5 o).length ≤ C) := fun o ho => Nat.le_trans (txt_le o) (htx o ho)
  have HK0 : Hid (Kp G w W0.drew) := hb0.drew.kp h.lt
  have hp1 := hide (Pr.call1 (hG.bel (Bel.refl W0).drew).1 (C' := C) (by omega) (fun M B hd => trunc_any hd n k hn (by omega) (by omega)))
  have hp2 := hide (fun (W : World) (x1 : PD) (hp : Pr (C) (fun i => G i ∨ i = w.heap.size) W pd px x1 d) => Pr.call2 hp (C' := C) (by omega) (fun M B hx => ddo_tr hx n k (by omega) (by omega)))
  have hnx := hide (nx_tr (n := n) (t := t) (k := k) htx)
  have HROW := hide hrow
  have HW0 := hide hW0
  have HSZ := hide hsz
  have s1 : W0.cell? ⟨w.heap.size, 1, none⟩ = some (.string ⟨n.toArray⟩) := cell_of (unhide HROW)
  have s3 : W0.cell? ⟨w.heap.size, 3, none⟩ = some (.int .i64 k) := cell_of (unhide HROW)
  clear hrow hW0 hsz hG h htx hb0 hk1 hm1
  go_enter Try.func9, Try.ntmps9
  go_wp2_with fail
  rw [← unhide HW0]
  go_region_held3 (fun W => W.cell? ⟨w.heap.size, 1, none⟩ = some (.string ⟨n.toArray⟩) ∧ W.cell? ⟨w.heap.size, 3, none⟩ = some (.int .i64 k)) (first | exact ⟨z1, z3⟩ | exact ⟨y1, y3⟩ | exact ⟨s1, s3⟩) ((first
    | (go_at_call 24; refine (unhide hp1).mono ?_; rintro e w2 ⟨rfl, hpr2, hkp2⟩; have hr2 := hkp2.row (Or.inr rfl) (unhide HROW); have y1 : w2.cell? ⟨w.heap.size, 1, none⟩ = some (.string ⟨n.toArray⟩) := cell_of hr2; have y3 : w2.cell? ⟨w.heap.size, 3, none⟩ = some (.int .i64 k) := cell_of hr2; have HPR := hide hpr2; have HKP := hide hkp2; have HR2 := hide hr2; clear hpr2 hkp2 hr2)
    | (go_at_call 28; refine ((unhide hp2) _ _ (unhide HPR)).mono ?_; rintro e w3 ⟨rfl, hpr3, hkp3⟩; have hr3 := hkp3.row (Or.inr rfl) (unhide HR2); have z1 : w3.cell? ⟨w.heap.size, 1, none⟩ = some (.string ⟨n.toArray⟩) := cell_of hr3; have z3 : w3.cell? ⟨w.heap.size, 3, none⟩ = some (.int .i64 k) := cell_of hr3; have HPR3 := hide hpr3; have HKP3 := hide hkp3; clear hpr3 hkp3 hr3)))
  go_wp2_with fail
  go_ret
  exact ⟨rfl, _, ((unhide HPR3).less (fun i hi => Or.inl hi)).mono (by omega), ((unhide HK0).trans ((unhide HKP).less (fun i hi => Or.inl hi))).trans ((unhide HKP3).less (fun i hi => Or.inl hi)), unhide hnx⟩
set_option maxRecDepth 100000 in
set_option maxHeartbeats 4000000 in
theorem ld_ren {C : Nat} {G : Nat → Prop} {w : World} {pd px : Nat} {d : PD} (h : Pr C G w pd px d d) (n t : List UInt8) (k m : Int) (hn : n.length ≤ maxLen) (ht : t.length ≤ maxLen) (htl : t.length ≤ 16384) (hk1 : k < 9223372036854775808) (hm1 : m < 9223372036854775808) (hol : d.ops.length ≤ 1000) (hC : C ≤ 100000000) (htx : Tx C d) :
    Calls Try.prog 9 #[.pointer (some ⟨pd, 0, none⟩), .pointer (some ⟨px, 0, none⟩), .agg #[.int .i64 4, .string ⟨n.toArray⟩, .string ⟨t.toArray⟩, .int .i64 k, .int .i64 m]] w fun e w' => e = .returned (.bool true) ∧ ∃ d', Pr (C + 2 * t.length) G w' pd px d' d' ∧ Kp G w w' ∧ Nx (C + 2 * t.length) d d' := by
  have hfu := Try.follows
  obtain ⟨W0, hW0⟩ : ∃ W0, W0 = w.alloc (.cells #[.int .i64 4, .string ⟨n.toArray⟩, .string ⟨t.toArray⟩, .int .i64 k, .int .i64 m] 28) := ⟨_, rfl⟩
  have hb0 : Bel w W0 := by rw [hW0]; exact (Bel.refl w).alloc _
  have hsz : W0.heap.size = w.heap.size + 1 := by rw [hW0]; simp
  have hrow : W0.heap[w.heap.size]? = some (.cells #[.int .i64 4, .string ⟨n.toArray⟩, .string ⟨t.toArray⟩, .int .i64 k, .int .i64 m] 28) := by rw [hW0]; exact at_new w _
  have hG : Pr C (fun i => G i ∨ i = w.heap.size) W0 pd px d d := (h.more hb0).less (fun i hi => hi.elim Or.inl (fun e => Or.inr (by omega)))
  have HTX : Hid (∀ o ∈ d.ops, (oT o).length ≤ C) := htx
  have HTP : Hid (∀ o ∈ d.ops, (txt5 o).length ≤ C) := fun o ho => Nat.le_trans (txt_le o) (htx o ho)
  have HK0 : Hid (Kp G w W0.drew) := hb0.drew.kp h.lt
  have hp1 := hide (Pr.call1 (hG.bel (Bel.refl W0).drew).1 (C' := C) (by omega) (fun M B hd => rename_any hd n t hn ht (by omega) (by omega)))
  have hp2 := hide (fun (W : World) (x1 : PD) (hp : Pr (C) (fun i => G i ∨ i = w.heap.size) W pd px x1 d) => Pr.call2 hp (C' := C) (by omega) (fun M B hx => ddo_ren hx n t (by omega) (by omega)))
  have hnx := hide (nx_ren (n := n) (t := t) htx)
  have HROW := hide hrow
  have HW0 := hide hW0
  have HSZ := hide hsz
  have s1 : W0.cell? ⟨w.heap.size, 1, none⟩ = some (.string ⟨n.toArray⟩) := cell_of (unhide HROW)
  have s2 : W0.cell? ⟨w.heap.size, 2, none⟩ = some (.string ⟨t.toArray⟩) := cell_of (unhide HROW)
  clear hrow hW0 hsz hG h htx hb0 hk1 hm1
  go_enter Try.func9, Try.ntmps9
  go_wp2_with fail
  rw [← unhide HW0]
  go_region_held3 (fun W => W.cell? ⟨w.heap.size, 1, none⟩ = some (.string ⟨n.toArray⟩) ∧ W.cell? ⟨w.heap.size, 2, none⟩ = some (.string ⟨t.toArray⟩)) (first | exact ⟨z1, z2⟩ | exact ⟨y1, y2⟩ | exact ⟨s1, s2⟩) ((first
    | (go_at_call 25; refine (unhide hp1).mono ?_; rintro e w2 ⟨rfl, hpr2, hkp2⟩; have hr2 := hkp2.row (Or.inr rfl) (unhide HROW); have y1 : w2.cell? ⟨w.heap.size, 1, none⟩ = some (.string ⟨n.toArray⟩) := cell_of hr2; have y2 : w2.cell? ⟨w.heap.size, 2, none⟩ = some (.string ⟨t.toArray⟩) := cell_of hr2; have HPR := hide hpr2; have HKP := hide hkp2; have HR2 := hide hr2; clear hpr2 hkp2 hr2)
    | (go_at_call 28; refine ((unhide hp2) _ _ (unhide HPR)).mono ?_; rintro e w3 ⟨rfl, hpr3, hkp3⟩; have hr3 := hkp3.row (Or.inr rfl) (unhide HR2); have z1 : w3.cell? ⟨w.heap.size, 1, none⟩ = some (.string ⟨n.toArray⟩) := cell_of hr3; have z2 : w3.cell? ⟨w.heap.size, 2, none⟩ = some (.string ⟨t.toArray⟩) := cell_of hr3; have HPR3 := hide hpr3; have HKP3 := hide hkp3; clear hpr3 hkp3 hr3)))
  go_wp2_with fail
  go_ret
  exact ⟨rfl, _, ((unhide HPR3).less (fun i hi => Or.inl hi)).mono (by omega), ((unhide HK0).trans ((unhide HKP).less (fun i hi => Or.inl hi))).trans ((unhide HKP3).less (fun i hi => Or.inl hi)), unhide hnx⟩
set_option maxRecDepth 100000 in
set_option maxHeartbeats 4000000 in
theorem ld_rm {C : Nat} {G : Nat → Prop} {w : World} {pd px : Nat} {d : PD} (h : Pr C G w pd px d d) (n t : List UInt8) (k m : Int) (hn : n.length ≤ maxLen) (ht : t.length ≤ maxLen) (htl : t.length ≤ 16384) (hk1 : k < 9223372036854775808) (hm1 : m < 9223372036854775808) (hol : d.ops.length ≤ 1000) (hC : C ≤ 100000000) (htx : Tx C d) :
    Calls Try.prog 9 #[.pointer (some ⟨pd, 0, none⟩), .pointer (some ⟨px, 0, none⟩), .agg #[.int .i64 5, .string ⟨n.toArray⟩, .string ⟨t.toArray⟩, .int .i64 k, .int .i64 m]] w fun e w' => e = .returned (.bool true) ∧ ∃ d', Pr (C + 2 * t.length) G w' pd px d' d' ∧ Kp G w w' ∧ Nx (C + 2 * t.length) d d' := by
  have hfu := Try.follows
  obtain ⟨W0, hW0⟩ : ∃ W0, W0 = w.alloc (.cells #[.int .i64 5, .string ⟨n.toArray⟩, .string ⟨t.toArray⟩, .int .i64 k, .int .i64 m] 28) := ⟨_, rfl⟩
  have hb0 : Bel w W0 := by rw [hW0]; exact (Bel.refl w).alloc _
  have hsz : W0.heap.size = w.heap.size + 1 := by rw [hW0]; simp
  have hrow : W0.heap[w.heap.size]? = some (.cells #[.int .i64 5, .string ⟨n.toArray⟩, .string ⟨t.toArray⟩, .int .i64 k, .int .i64 m] 28) := by rw [hW0]; exact at_new w _
  have hG : Pr C (fun i => G i ∨ i = w.heap.size) W0 pd px d d := (h.more hb0).less (fun i hi => hi.elim Or.inl (fun e => Or.inr (by omega)))
  have HTX : Hid (∀ o ∈ d.ops, (oT o).length ≤ C) := htx
  have HTP : Hid (∀ o ∈ d.ops, (txt5 o).length ≤ C) := fun o ho => Nat.le_trans (txt_le o) (htx o ho)
  have HK0 : Hid (Kp G w W0.drew) := hb0.drew.kp h.lt
  have hp1 := hide (Pr.call1 (hG.bel (Bel.refl W0).drew).1 (C' := C) (by omega) (fun M B hd => remove_any hd n hn (by omega) (by omega)))
  have hp2 := hide (fun (W : World) (x1 : PD) (hp : Pr (C) (fun i => G i ∨ i = w.heap.size) W pd px x1 d) => Pr.call2 hp (C' := C) (by omega) (fun M B hx => ddo_rm hx n (by omega) (by omega)))
  have hnx := hide (nx_rm (n := n) (t := t) htx)
  have HROW := hide hrow
  have HW0 := hide hW0
  have HSZ := hide hsz
  have s1 : W0.cell? ⟨w.heap.size, 1, none⟩ = some (.string ⟨n.toArray⟩) := cell_of (unhide HROW)
  clear hrow hW0 hsz hG h htx hb0 hk1 hm1
  go_enter Try.func9, Try.ntmps9
  go_wp2_with fail
  rw [← unhide HW0]
  go_region_held3 (fun W => W.cell? ⟨w.heap.size, 1, none⟩ = some (.string ⟨n.toArray⟩)) (first | exact z1 | exact y1 | exact s1) ((first
    | (go_at_call 26; refine (unhide hp1).mono ?_; rintro e w2 ⟨rfl, hpr2, hkp2⟩; have hr2 := hkp2.row (Or.inr rfl) (unhide HROW); have y1 : w2.cell? ⟨w.heap.size, 1, none⟩ = some (.string ⟨n.toArray⟩) := cell_of hr2; have HPR := hide hpr2; have HKP := hide hkp2; have HR2 := hide hr2; clear hpr2 hkp2 hr2)
    | (go_at_call 28; refine ((unhide hp2) _ _ (unhide HPR)).mono ?_; rintro e w3 ⟨rfl, hpr3, hkp3⟩; have hr3 := hkp3.row (Or.inr rfl) (unhide HR2); have z1 : w3.cell? ⟨w.heap.size, 1, none⟩ = some (.string ⟨n.toArray⟩) := cell_of hr3; have HPR3 := hide hpr3; have HKP3 := hide hkp3; clear hpr3 hkp3 hr3)))
  go_wp2_with fail
  go_ret
  exact ⟨rfl, _, ((unhide HPR3).less (fun i hi => Or.inl hi)).mono (by omega), ((unhide HK0).trans ((unhide HKP).less (fun i hi => Or.inl hi))).trans ((unhide HKP3).less (fun i hi => Or.inl hi)), unhide hnx⟩
set_option maxRecDepth 100000 in
set_option maxHeartbeats 4000000 in
theorem ld_crash {C : Nat} {G : Nat → Prop} {w : World} {pd px : Nat} {d : PD} (h : Pr C G w pd px d d) (n t : List UInt8) (k m : Int) (hn : n.length ≤ maxLen) (ht : t.length ≤ maxLen) (htl : t.length ≤ 16384) (hk1 : k < 9223372036854775808) (hm1 : m < 9223372036854775808) (hol : d.ops.length ≤ 1000) (hC : C ≤ 100000000) (htx : Tx C d) :
    Calls Try.prog 9 #[.pointer (some ⟨pd, 0, none⟩), .pointer (some ⟨px, 0, none⟩), .agg #[.int .i64 7, .string ⟨n.toArray⟩, .string ⟨t.toArray⟩, .int .i64 k, .int .i64 m]] w fun e w' => e = .returned (.bool true) ∧ ∃ d', Pr (C + 2 * t.length) G w' pd px d' d' ∧ Kp G w w' ∧ Nx (C + 2 * t.length) d d' := by
  have hfu := Try.follows
  obtain ⟨W0, hW0⟩ : ∃ W0, W0 = w.alloc (.cells #[.int .i64 7, .string ⟨n.toArray⟩, .string ⟨t.toArray⟩, .int .i64 k, .int .i64 m] 28) := ⟨_, rfl⟩
  have hb0 : Bel w W0 := by rw [hW0]; exact (Bel.refl w).alloc _
  have hsz : W0.heap.size = w.heap.size + 1 := by rw [hW0]; simp
  have hrow : W0.heap[w.heap.size]? = some (.cells #[.int .i64 7, .string ⟨n.toArray⟩, .string ⟨t.toArray⟩, .int .i64 k, .int .i64 m] 28) := by rw [hW0]; exact at_new w _
  have hG : Pr C (fun i => G i ∨ i = w.heap.size) W0 pd px d d := (h.more hb0).less (fun i hi => hi.elim Or.inl (fun e => Or.inr (by omega)))
  have HTX : Hid (∀ o ∈ d.ops, (oT o).length ≤ C) := htx
  have HTP : Hid (∀ o ∈ d.ops, (txt5 o).length ≤ C) := fun o ho => Nat.le_trans (txt_le o) (htx o ho)
  have HK0 : Hid (Kp G w W0.drew) := hb0.drew.kp h.lt
  have hp1 := hide (Pr.call1 (hG.bel (Bel.refl W0).drew).1 (C' := C) (by omega) (fun M B hd => crash_any hd k m (by omega) (by omega) (unhide HTP) hk1 hm1))
  have hp2 := hide (fun (W : World) (x1 : PD) (hp : Pr (C) (fun i => G i ∨ i = w.heap.size) W pd px x1 d) => Pr.call2 hp (C' := C) (by omega) (fun M B hx => dcrash_any hx k m (by omega) (by omega) (unhide HTX)))
  have hnx := hide (nx_crash (t := t) (k := k) (m := m) htx)
  have HROW := hide hrow
  have HW0 := hide hW0
  have HSZ := hide hsz
  have s3 : W0.cell? ⟨w.heap.size, 3, none⟩ = some (.int .i64 k) := cell_of (unhide HROW)
  have s4 : W0.cell? ⟨w.heap.size, 4, none⟩ = some (.int .i64 m) := cell_of (unhide HROW)
  clear hrow hW0 hsz hG h htx hb0 hk1 hm1
  go_enter Try.func9, Try.ntmps9
  go_wp2_with fail
  rw [← unhide HW0]
  go_region_held3 (fun W => W.cell? ⟨w.heap.size, 3, none⟩ = some (.int .i64 k) ∧ W.cell? ⟨w.heap.size, 4, none⟩ = some (.int .i64 m)) (first | exact ⟨z3, z4⟩ | exact ⟨y3, y4⟩ | exact ⟨s3, s4⟩) ((first
    | (go_at_call 22; refine (unhide hp1).mono ?_; rintro e w2 ⟨rfl, hpr2, hkp2⟩; have hr2 := hkp2.row (Or.inr rfl) (unhide HROW); have y3 : w2.cell? ⟨w.heap.size, 3, none⟩ = some (.int .i64 k) := cell_of hr2; have y4 : w2.cell? ⟨w.heap.size, 4, none⟩ = some (.int .i64 m) := cell_of hr2; have HPR := hide hpr2; have HKP := hide hkp2; have HR2 := hide hr2; clear hpr2 hkp2 hr2)
    | (go_at_call 30; refine ((unhide hp2) _ _ (unhide HPR)).mono ?_; rintro e w3 ⟨rfl, hpr3, hkp3⟩; have hr3 := hkp3.row (Or.inr rfl) (unhide HR2); have z3 : w3.cell? ⟨w.heap.size, 3, none⟩ = some (.int .i64 k) := cell_of hr3; have z4 : w3.cell? ⟨w.heap.size, 4, none⟩ = some (.int .i64 m) := cell_of hr3; have HPR3 := hide hpr3; have HKP3 := hide hkp3; clear hpr3 hkp3 hr3)))
  go_wp2_with fail
  go_ret
  exact ⟨rfl, _, ((unhide HPR3).less (fun i hi => Or.inl hi)).mono (by omega), ((unhide HK0).trans ((unhide HKP).less (fun i hi => Or.inl hi))).trans ((unhide HKP3).less (fun i hi => Or.inl hi)), unhide hnx⟩
set_option maxRecDepth 100000 in
set_option maxHeartbeats 4000000 in
theorem ld_sync {C : Nat} {G : Nat → Prop} {w : World} {pd px : Nat} {d : PD} (h : Pr C G w pd px d d) (n t : List UInt8) (k m : Int) (hn : n.length ≤ maxLen) (ht : t.length ≤ maxLen) (htl : t.length ≤ 16384) (hk1 : k < 9223372036854775808) (hm1 : m < 9223372036854775808) (hol : d.ops.length ≤ 1000) (hC : C ≤ 100000000) (htx : Tx C d) :
    Calls Try.prog 9 #[.pointer (some ⟨pd, 0, none⟩), .pointer (some ⟨px, 0, none⟩), .agg #[.int .i64 6, .string ⟨n.toArray⟩, .string ⟨t.toArray⟩, .int .i64 k, .int .i64 m]] w fun e w' => e = .returned (.bool true) ∧ ∃ d', Pr (C + 2 * t.length) G w' pd px d' d' ∧ Kp G w w' ∧ Nx (C + 2 * t.length) d d' := by
  have hfu := Try.follows
  obtain ⟨W0, hW0⟩ : ∃ W0, W0 = w.alloc (.cells #[.int .i64 6, .string ⟨n.toArray⟩, .string ⟨t.toArray⟩, .int .i64 k, .int .i64 m] 28) := ⟨_, rfl⟩
  have hb0 : Bel w W0 := by rw [hW0]; exact (Bel.refl w).alloc _
  have hsz : W0.heap.size = w.heap.size + 1 := by rw [hW0]; simp
  have hrow : W0.heap[w.heap.size]? = some (.cells #[.int .i64 6, .string ⟨n.toArray⟩, .string ⟨t.toArray⟩, .int .i64 k, .int .i64 m] 28) := by rw [hW0]; exact at_new w _
  have hG : Pr C (fun i => G i ∨ i = w.heap.size) W0 pd px d d := (h.more hb0).less (fun i hi => hi.elim Or.inl (fun e => Or.inr (by omega)))
  have HTX : Hid (∀ o ∈ d.ops, (oT o).length ≤ C) := htx
  have HTP : Hid (∀ o ∈ d.ops, (txt5 o).length ≤ C) := fun o ho => Nat.le_trans (txt_le o) (htx o ho)
  have HK0 : Hid (Kp G w W0.drew) := hb0.drew.kp h.lt
  have hp2 := hide (Pr.call2 hG (C' := C) (Nat.le_refl _) (fun M B hx => dsync_any hx))
  have hp1 := hide (fun (W : World) (x1 : PD) (hp : Pr C (fun i => G i ∨ i = w.heap.size) W pd px d x1) => Pr.call1 hp (C' := C) (Nat.le_refl _) (fun M B hd => sync_any hd (by omega)))
  have hnx : Hid (Nx (C + 2 * t.length) d d.sync) := ⟨Nat.zero_le _, fun o ho => by cases ho⟩
  have HK : Hid (Kp G w W0) := hb0.kp h.lt
  have HW0 := hide hW0
  clear hrow hW0 hsz hG h htx hb0 hk1 hm1
  go_enter Try.func9, Try.ntmps9
  go_wp2_with (first
    | (go_at_call 29; rw [← unhide HW0]; refine (unhide hp2).mono ?_; rintro e w2 ⟨rfl, hpr2, hkp2⟩; have HPR := hide hpr2; have HKP := hide hkp2; clear hpr2 hkp2)
    | (go_at_call 20; refine ((unhide hp1) _ _ (unhide HPR)).mono ?_; rintro e w3 ⟨rfl, hpr3, hkp3⟩; have HPR3 := hide hpr3; have HKP3 := hide hkp3; clear hpr3 hkp3))
  go_ret
  exact ⟨rfl, _, ((unhide HPR3).less (fun i hi => Or.inl hi)).mono (by omega), ((unhide HK).trans ((unhide HKP).less (fun i hi => Or.inl hi))).trans ((unhide HKP3).less (fun i hi => Or.inl hi)), unhide hnx⟩
set_option maxRecDepth 100000 in
set_option maxHeartbeats 4000000 in
theorem ld_read {C : Nat} {G : Nat → Prop} {w : World} {pd px : Nat} {d : PD} (h : Pr C G w pd px d d) (n t : List UInt8) (k m : Int) (hn : n.length ≤ maxLen) (ht : t.length ≤ maxLen) (htl : t.length ≤ 16384) (hk1 : k < 9223372036854775808) (hm1 : m < 9223372036854775808) (hol : d.ops.length ≤ 1000) (hC : C ≤ 100000000) (htx : Tx C d) :
    Calls Try.prog 9 #[.pointer (some ⟨pd, 0, none⟩), .pointer (some ⟨px, 0, none⟩), .agg #[.int .i64 8, .string ⟨n.toArray⟩, .string ⟨t.toArray⟩, .int .i64 k, .int .i64 m]] w fun e w' => e = .returned (.bool true) ∧ ∃ d', Pr (C + 2 * t.length) G w' pd px d' d' ∧ Kp G w w' ∧ Nx (C + 2 * t.length) d d' := by
  have hfu := Try.follows
  obtain ⟨W0, hW0⟩ : ∃ W0, W0 = w.alloc (.cells #[.int .i64 8, .string ⟨n.toArray⟩, .string ⟨t.toArray⟩, .int .i64 k, .int .i64 m] 28) := ⟨_, rfl⟩
  have hb0 : Bel w W0 := by rw [hW0]; exact (Bel.refl w).alloc _
  have hsz : W0.heap.size = w.heap.size + 1 := by rw [hW0]; simp
  have hrow : W0.heap[w.heap.size]? = some (.cells #[.int .i64 8, .string ⟨n.toArray⟩, .string ⟨t.toArray⟩, .int .i64 k, .int .i64 m] 28) := by rw [hW0]; exact at_new w _
  have hG : Pr C (fun i => G i ∨ i = w.heap.size) W0 pd px d d := (h.more hb0).less (fun i hi => hi.elim Or.inl (fun e => Or.inr (by omega)))
  have HTX : Hid (∀ o ∈ d.ops, (oT o).length ≤ C) := htx
  have HTP : Hid (∀ o ∈ d.ops, (txt5 o).length ≤ C) := fun o ho => Nat.le_trans (txt_le o) (htx o ho)
  have HK0 : Hid (Kp G w W0.drew) := hb0.drew.kp h.lt
  obtain ⟨M1, B1, M2, B2, k1, k2, k3⟩ := hG.ex
  have hp1 := hide (read_any k1 n hn)
  have hp2 := hide (fun (W : World) (hb : Bel W0 W) => dread_any (k2.bel hb) n)
  have hnx := hide (nx_same htx (show C ≤ C + 2 * t.length by omega))
  have HG := hide hG
  have HB0 := hide hb0
  have HP := hide h
  have HW0 := hide hW0
  have HROW := hide hrow
  generalize d.rd n = r at hp1 hp2
  obtain ⟨r1, r2⟩ := r
  clear hrow hW0 hsz hG h htx hb0 hk1 hm1 k1 k2 k3
  go_enter Try.func9, Try.ntmps9
  go_wp2_with (first
    | (go_at_call 23; rw [← unhide HW0]; refine (unhide hp1).mono ?_; rintro e w2 ⟨rfl, hb2⟩; have y1 : w2.cell? ⟨w.heap.size, 1, none⟩ = some (.string ⟨n.toArray⟩) := cell_of (hb2.row (unhide HROW)))
    | (go_at_call 31; refine ((unhide hp2) _ hb2).mono ?_; rintro e w3 ⟨rfl, hw3⟩; rw [hw3]; clear hw3))
  go_ret
  have hbb := (unhide HB0).trans hb2
  exact ⟨rfl, d, ((unhide HP).bel hbb).1.mono (by omega), ((unhide HP).bel hbb).2, unhide hnx⟩
set_option maxRecDepth 100000 in
set_option maxHeartbeats 4000000 in
theorem ld_else {C : Nat} {G : Nat → Prop} {w : World} {pd px : Nat} {d : PD} (h : Pr C G w pd px d d) (n t : List UInt8) (k m : Int) (hn : n.length ≤ maxLen) (ht : t.length ≤ maxLen) (htl : t.length ≤ 16384) (hk1 : k < 9223372036854775808) (hm1 : m < 9223372036854775808) (hol : d.ops.length ≤ 1000) (hC : C ≤ 100000000) (htx : Tx C d) (c : Int) (c1 : c ≠ 1) (c2 : c ≠ 2) (c3 : c ≠ 3) (c4 : c ≠ 4) (c5 : c ≠ 5) (c6 : c ≠ 6) (c7 : c ≠ 7) (c8 : c ≠ 8) :
    Calls Try.prog 9 #[.pointer (some ⟨pd, 0, none⟩), .pointer (some ⟨px, 0, none⟩), .agg #[.int .i64 c, .string ⟨n.toArray⟩, .string ⟨t.toArray⟩, .int .i64 k, .int .i64 m]] w fun e w' => e = .returned (.bool true) ∧ ∃ d', Pr (C + 2 * t.length) G w' pd px d' d' ∧ Kp G w w' ∧ Nx (C + 2 * t.length) d d' := by
  have hfu := Try.follows
  obtain ⟨W0, hW0⟩ : ∃ W0, W0 = w.alloc (.cells #[.int .i64 c, .string ⟨n.toArray⟩, .string ⟨t.toArray⟩, .int .i64 k, .int .i64 m] 28) := ⟨_, rfl⟩
  have hb0 : Bel w W0 := by rw [hW0]; exact (Bel.refl w).alloc _
  have hsz : W0.heap.size = w.heap.size + 1 := by rw [hW0]; simp
  have hrow : W0.heap[w.heap.size]? = some (.cells #[.int .i64 c, .string ⟨n.toArray⟩, .string ⟨t.toArray⟩, .int .i64 k, .int .i64 m] 28) := by rw [hW0]; exact at_new w _
  have hG : Pr C (fun i => G i ∨ i = w.heap.size) W0 pd px d d := (h.more hb0).less (fun i hi => hi.elim Or.inl (fun e => Or.inr (by omega)))
  have HTX : Hid (∀ o ∈ d.ops, (oT o).length ≤ C) := htx
  have HTP : Hid (∀ o ∈ d.ops, (txt5 o).length ≤ C) := fun o ho => Nat.le_trans (txt_le o) (htx o ho)
  have HK0 : Hid (Kp G w W0.drew) := hb0.drew.kp h.lt
  have hp1 := hide (stands_any hG (by omega))
  have hnx := hide (nx_same htx (show C ≤ C + 2 * t.length by omega))
  have HB0 := hide hb0
  have HP := hide h
  have HW0 := hide hW0
  clear hrow hW0 hsz hG h htx hb0 hk1 hm1
  go_enter Try.func9, Try.ntmps9
  go_wp2_with (first | (go_at_call 13; rw [← unhide HW0]; refine (unhide hp1).mono ?_; rintro e w2 ⟨rfl, hb2⟩))
  go_ret
  have hbb := (unhide HB0).trans hb2
  exact ⟨rfl, d, ((unhide HP).bel hbb).1.mono (by omega), ((unhide HP).bel hbb).2, unhide hnx⟩
/-- One call of both. -/
theorem ld_any {C : Nat} {G : Nat → Prop} {w : World} {pd px : Nat} {d : PD} (h : Pr C G w pd px d d) (c : Int) (n t : List UInt8) (k m : Int) (hn : n.length ≤ maxLen) (ht : t.length ≤ maxLen) (htl : t.length ≤ 16384) (hk1 : k < 9223372036854775808) (hm1 : m < 9223372036854775808) (hol : d.ops.length ≤ 1000) (hC : C ≤ 100000000) (htx : Tx C d) :
    Calls Try.prog 9 #[.pointer (some ⟨pd, 0, none⟩), .pointer (some ⟨px, 0, none⟩), .agg #[.int .i64 c, .string ⟨n.toArray⟩, .string ⟨t.toArray⟩, .int .i64 k, .int .i64 m]] w fun e w' => e = .returned (.bool true) ∧ ∃ d', Pr (C + 2 * t.length) G w' pd px d' d' ∧ Kp G w w' ∧ Nx (C + 2 * t.length) d d' := by
  by_cases c1 : c = 1
  · subst c1; exact ld_app h n t k m hn ht htl hk1 hm1 hol hC htx
  by_cases c2 : c = 2
  · subst c2; exact ld_wr h n t k m hn ht htl hk1 hm1 hol hC htx
  by_cases c3 : c = 3
  · subst c3; exact ld_tr h n t k m hn ht htl hk1 hm1 hol hC htx
  by_cases c4 : c = 4
  · subst c4; exact ld_ren h n t k m hn ht htl hk1 hm1 hol hC htx
  by_cases c5 : c = 5
  · subst c5; exact ld_rm h n t k m hn ht htl hk1 hm1 hol hC htx
  by_cases c6 : c = 6
  · subst c6; exact ld_sync h n t k m hn ht htl hk1 hm1 hol hC htx
  by_cases c7 : c = 7
  · subst c7; exact ld_crash h n t k m hn ht htl hk1 hm1 hol hC htx
  by_cases c8 : c = 8
  · subst c8; exact ld_read h n t k m hn ht htl hk1 hm1 hol hC htx
  exact ld_else h n t k m hn ht htl hk1 hm1 hol hC htx c c1 c2 c3 c4 c5 c6 c7 c8
end Go.Proofs.Ytpngcmlaimcceaa
