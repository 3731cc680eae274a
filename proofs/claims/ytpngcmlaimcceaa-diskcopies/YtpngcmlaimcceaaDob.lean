/- The document's laid: files with one that has these bytes. -/
import Derived.Test.YtpngcmlaimcceaaDoa
namespace Go.Proofs.Ytpngcmlaimcceaa
open Go.RowKit Go.Maps Go.WideMaps
/-- How far laid has come. -/
def Ld (l : Fs) (n b : List UInt8) (k : Nat) (d : Bool) (out : Fs) : Prop :=
  if d then (out = put (l.take k) n b ∧ ∃ j, ∃ h : j < l.length, j < k ∧ bytesBefore l[j].1 n = false) else (out = l.take k ∧ ∀ j (h : j < l.length), j < k → bytesBefore l[j].1 n = true)
theorem take_bef {l : Fs} {n : List UInt8} {k : Nat} (h : ∀ j (h : j < l.length), j < k → bytesBefore l[j].1 n = true) : ∀ z ∈ l.take k, bytesBefore z.1 n = true := by
  intro z hz
  obtain ⟨j, hj, rfl⟩ := List.mem_iff_getElem.1 hz
  rw [List.getElem_take]
  have hj' := hj
  rw [List.length_take] at hj'
  exact h j (by omega) (by omega)
theorem del_bef {m : Fs} {n : List UInt8} (h : ∀ z ∈ m, bytesBefore z.1 n = true) : del m n = m := del_none (fun z hz e => by have := h z hz; rw [e] at this; exact bb_irr _ this)
theorem put_bef {m : Fs} {n b : List UInt8} (h : ∀ z ∈ m, bytesBefore z.1 n = true) : put m n b = m ++ [(n, b)] := by
  unfold put
  rw [del_bef h]
  exact fins_end h
theorem Ld.low {l : Fs} {n b : List UInt8} {k : Nat} {out : Fs} (h : Ld l n b k false out) (hk : k < l.length) (hb : bytesBefore l[k].1 n = true) : Ld l n b (k + 1) false (out ++ [l[k]]) := by
  obtain ⟨rfl, h2⟩ := h
  refine ⟨(List.take_succ_eq_append_getElem hk).symm, fun j hj hjk => ?_⟩
  by_cases e : j = k
  · subst e; exact hb
  · exact h2 j hj (by omega)
theorem Ld.hit {l : Fs} {n b : List UInt8} {k : Nat} {out : Fs} (h : Ld l n b k false out) (hk : k < l.length) (he : l[k].1 = n) : Ld l n b (k + 1) true (out ++ [(n, b)]) := by
  obtain ⟨rfl, h2⟩ := h
  refine ⟨?_, k, hk, by omega, by rw [he]; exact WideAt.bytes_irrefl _⟩
  rw [List.take_succ_eq_append_getElem hk]
  unfold put
  rw [del_snoc_eq he, del_bef (take_bef h2)]
  exact (fins_end (take_bef h2)).symm
theorem Ld.high {l : Fs} {n b : List UInt8} {k : Nat} {out : Fs} (h : Ld l n b k false out) (hk : k < l.length) (hb : bytesBefore l[k].1 n = false) (he : l[k].1 ≠ n) : Ld l n b (k + 1) true (out ++ [(n, b)] ++ [l[k]]) := by
  obtain ⟨rfl, h2⟩ := h
  refine ⟨?_, k, hk, by omega, hb⟩
  have hn : bytesBefore n l[k].1 = true := by
    rcases WideAt.bytes_total l[k].1 n he with h | h
    · rw [h] at hb; cases hb
    · exact h
  rw [List.take_succ_eq_append_getElem hk]
  unfold put
  rw [del_snoc_ne he, fins_snoc hn, del_bef (take_bef h2), fins_end (take_bef h2)]
theorem later_ne {l : Fs} (hs : srt l) {n : List UInt8} {j k : Nat} (hj : j < l.length) (hk : k < l.length) (hjk : j < k) (hb : bytesBefore l[j].1 n = false) : bytesBefore n l[k].1 = true := by
  have h1 := List.pairwise_iff_getElem.1 hs j k hj hk hjk
  by_cases e : l[j].1 = n
  · rw [e] at h1; exact h1
  · rcases WideAt.bytes_total l[j].1 n e with h | h
    · rw [h] at hb; cases hb
    · exact WideShapes.bytes_trans _ _ _ h h1
theorem Ld.more {l : Fs} (hs : srt l) {n b : List UInt8} {k : Nat} {out : Fs} (h : Ld l n b k true out) (hk : k < l.length) : l[k].1 ≠ n ∧ Ld l n b (k + 1) true (out ++ [l[k]]) := by
  obtain ⟨rfl, j, hj, hjk, hb⟩ := h
  have hn := later_ne hs hj hk hjk hb
  have he : l[k].1 ≠ n := fun e => by rw [e] at hn; exact bb_irr _ hn
  refine ⟨he, ?_, j, hj, by omega, hb⟩
  rw [List.take_succ_eq_append_getElem hk]
  unfold put
  rw [del_snoc_ne he, fins_snoc hn]
theorem Ld.len {l : Fs} {n b : List UInt8} {k : Nat} {d : Bool} {out : Fs} (h : Ld l n b k d out) : out.length ≤ l.length + 1 := by
  have h2 : (l.take k).length ≤ l.length := by rw [List.length_take]; omega
  cases d
  · rw [h.1]; omega
  · rw [h.1]; have := len_put (l.take k) n b; omega
set_option maxRecDepth 100000 in
set_option maxHeartbeats 2000000 in
/-- laid: files with one that has these bytes. -/
theorem dlaid_any (l : Fs) (v : Value) (n b : List UInt8) (w : World) (hr : Rf w v l) (hl : l.length ≤ 100000) (hs : srt l) :
    Calls Try.prog 57 #[v, .string ⟨n.toArray⟩, .string ⟨b.toArray⟩] w fun e w' => ∃ v', e = .returned v' ∧ Ro w w' v' (put l n b) := by
  obtain ⟨a, cap, g, rfl, hc, ha, hcl⟩ := hr.shape
  have hgl : l.length ≠ 0 → g < w.heap.size := fun h => by have := ha h; subst this; exact (World.ownsRow.lt hr g rfl).2
  have HGL := hide hgl
  have HA := hide ha
  have HC := hide hcl
  have HS := hide hs
  clear ha hcl hr hgl hs
  go_enter Try.func57, Try.ntmps57
  go_wp2_with fail
  go_loopw [7, 8, 9] (fun vo vd vi wr => ∃ k : Nat, ∃ d out, k ≤ l.length ∧ vi = .int .i64 k ∧ vd = .bool d ∧ Hid (Ro w wr vo out ∧ Ld l n b k d out)) (fun _ _ vi _ => l.length - (intOf vi).toNat)
  case atStart => exact ⟨0, false, [], Nat.zero_le _, rfl, rfl, hide ⟨⟨World.ownsRow_nil _ _ _ _, Bel.refl _⟩, rfl, fun j h hj => absurd hj (by omega)⟩⟩
  case round =>
    obtain ⟨k, d, out, hk, rfl, rfl, HO⟩ := hrel
    have hlen : out.length + 2 ≤ 1048577 := by have := HO.out.2.len; omega
    by_cases hlt : k < l.length
    · have hwl := HGL.out (by omega)
      obtain rfl := HA.out (by omega)
      have hcx : wr.cell? ⟨g, k * 2, none⟩ = some (.string ⟨l[k].1.toArray⟩) := (HO.out.1.bel.cell hwl).trans (HC.out k hlt).1
      have hcy : wr.cell? ⟨g, k * 2 + 1, none⟩ = some (.string ⟨l[k].2.toArray⟩) := (HO.out.1.bel.cell hwl).trans (HC.out k hlt).2
      cases d
      · cases hbb : bytesBefore l[k].1 n
        · by_cases he : l[k].1 = n
          · have hnx := hide (HO.out.2.hit hlt he)
            have hbl : Op.bytesLess l[k].1 n = false := by rw [← bb_less]; exact hbb
            have c0 : Hid (w.cell? ⟨g, k * 2, none⟩ = some (.string ⟨l[k].1.toArray⟩)) := (HC.out k hlt).1
            generalize l[k].1 = x at hcx he hbl hbb c0
            subst he
            clear hbb
            go_wp2_with (first | (at_builtin; refine ro_push (unhide HO).1 (by omega) (x, b) rfl _ _ rfl rfl rfl ?_; intro v' w3 hro; have hcx3 : w3.cell? ⟨g, k * 2, none⟩ = some (.string ⟨x.toArray⟩) := (hro.bel.cell hwl).trans (unhide c0); go_frame) | go_in)
            go_roundw
            case rel => exact ⟨k + 1, true, _, by omega, by go_num, rfl, hro, unhide hnx⟩
            case measure => simp [intOf]; omega
          · have hnx := hide (HO.out.2.high hlt hbb he)
            have c0 : Hid (w.cell? ⟨g, k * 2, none⟩ = some (.string ⟨l[k].1.toArray⟩)) := (HC.out k hlt).1
            have c1 : Hid (w.cell? ⟨g, k * 2 + 1, none⟩ = some (.string ⟨l[k].2.toArray⟩)) := (HC.out k hlt).2
            have hbl : Op.bytesLess l[k].1 n = false := by rw [← bb_less]; exact hbb
            have hs1 : ((⟨l[k].1.toArray⟩ : ByteArray).toList == (⟨n.toArray⟩ : ByteArray).toList) = false := by rw [str_same]; simp [he]
            have hs2 : (l[k].1 == n) = false := by simpa using he
            generalize l[k] = y at hcx hcy hnx he hs1 hs2 hbl hbb c0 c1
            obtain ⟨y1, y2⟩ := y
            simp only at hcx hcy he hs1 hs2 hbl hbb c0 c1
            clear hbb
            go_wp2_with (first
              | (at_builtin; refine ro_push (unhide HO).1 (by omega) (n, b) rfl _ _ rfl rfl rfl ?_; intro v' w3 hro; have hcx3 : w3.cell? ⟨g, k * 2, none⟩ = some (.string ⟨y1.toArray⟩) := (hro.bel.cell hwl).trans (unhide c0); have hcy3 : w3.cell? ⟨g, k * 2 + 1, none⟩ = some (.string ⟨y2.toArray⟩) := (hro.bel.cell hwl).trans (unhide c1); have HRO := hide hro; clear hro; go_frame)
              | (at_builtin; refine ro_push (unhide HRO) (by simp; omega) (y1, y2) rfl _ _ rfl rfl rfl ?_; intro v'' w4 hro4; go_frame)
              | go_in)
            go_roundw
            case rel => exact ⟨k + 1, true, _, by omega, by go_num, rfl, hro4, unhide hnx⟩
            case measure => simp [intOf]; omega
        · have he : l[k].1 ≠ n := fun e => by rw [e] at hbb; exact bb_irr _ hbb
          have hnx := hide (HO.out.2.low hlt hbb)
          have hbl : Op.bytesLess l[k].1 n = true := by rw [← bb_less]; exact hbb
          have hs1 : ((⟨l[k].1.toArray⟩ : ByteArray).toList == (⟨n.toArray⟩ : ByteArray).toList) = false := by rw [str_same]; simp [he]
          have hs2 : (l[k].1 == n) = false := by simpa using he
          generalize l[k] = y at hcx hcy hnx he hs1 hs2 hbl hbb
          obtain ⟨y1, y2⟩ := y
          simp only at hcx hcy he hs1 hs2 hbl hbb
          clear hbb
          go_wp2_with (first | (at_builtin; refine ro_push (unhide HO).1 (by omega) (y1, y2) rfl _ _ rfl rfl rfl ?_; intro v' w3 hro; go_frame) | go_in)
          go_roundw
          case rel => exact ⟨k + 1, false, _, by omega, by go_num, rfl, hro, unhide hnx⟩
          case measure => simp [intOf]; omega
      · obtain ⟨he, hnx0⟩ := HO.out.2.more (unhide HS) hlt
        have hnx := hide hnx0
        have hs1 : ((⟨l[k].1.toArray⟩ : ByteArray).toList == (⟨n.toArray⟩ : ByteArray).toList) = false := by rw [str_same]; simp [he]
        have hs2 : (l[k].1 == n) = false := by simpa using he
        clear hnx0
        generalize l[k] = y at hcx hcy hnx he hs1 hs2
        obtain ⟨y1, y2⟩ := y
        simp only at hcx hcy he hs1 hs2
        go_wp2_with (first | (at_builtin; refine ro_push (unhide HO).1 (by omega) (y1, y2) rfl _ _ rfl rfl rfl ?_; intro v' w3 hro; go_frame) | go_in)
        go_roundw
        case rel => exact ⟨k + 1, true, _, by omega, by go_num, rfl, hro, unhide hnx⟩
        case measure => simp [intOf]; omega
    · obtain rfl : k = l.length := by omega
      cases d
      · have hfin : Hid (out ++ [(n, b)] = put l n b) := by
          obtain ⟨rfl, h2⟩ := HO.out.2
          have := put_bef (b := b) (take_bef h2)
          rw [List.take_length] at this ⊢
          exact this.symm
        go_wp2_with (first | (at_builtin; refine ro_push (unhide HO).1 (by omega) (n, b) rfl _ _ rfl rfl rfl ?_; intro v' w3 hro; go_frame) | go_in)
        go_ret
        exact ⟨_, rfl, by rw [← unhide hfin]; exact hro⟩
      · have hfin : Hid (out = put l n b) := by
          obtain ⟨rfl, h2⟩ := HO.out.2
          rw [List.take_length]
          rfl
        go_wp2_with fail
        go_ret
        exact ⟨_, rfl, by rw [← unhide hfin]; exact HO.out.1⟩
end Go.Proofs.Ytpngcmlaimcceaa
