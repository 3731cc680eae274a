/- Open. -/
import Derived.Test.YtgimciacapfbfaaGreatDoorLoa
import Derived.Test.YtgimciacapfbfaaGreatDoorInv
namespace Go.Proofs.YtgimciacapfbfaaGreatDoor
open Go.RowKit Go.Maps Go.WideMaps
theorem open_nil (s : ByteArray) (w : World) : Calls Tryz.prog 7 #[.pointer none, .string s] w fun e w' => e = .returned (.tuple #[.pointer none, .int .i64 1]) ∧ Bel w w' := by
  have h21 := hide (read_nil [] w)
  go_enter Tryz.func7, Tryz.ntmps7
  go_wp2_with (go_at_call 21; refine (unhide h21).mono ?_; rintro e w1 ⟨rfl, hb1⟩)
  go_ret2
  exact ⟨rfl, hb1⟩
set_option maxRecDepth 100000 in
set_option maxHeartbeats 4000000 in
theorem open_any {w0 W : World} {C : Nat} {G : Nat → Prop} {p : Nat} {d d' : PD} (h : Da w0 C G W p d) (hg : Gl w0) (nm : List UInt8) (hn : nm ≠ []) (hn2 : nm.length ≤ 64) (hc : ¬ 0 ≤ Lib.indexByte nm 47) (fs : List (Nat × List UInt8)) (hs : nms d.seen = (fs.map (·.1)).map (pth nm)) (h1 : ∀ f ∈ fs, 1 ≤ f.1 ∧ f.1 ≤ 100000) (hl : fs.length ≤ 100) (hb : ∀ f ∈ fs, f.2.length ≤ 1000000000) (hrd : ∀ f ∈ fs, d.rd (pth nm f.1) = (f.2, 0)) (hol : d.ops.length ≤ 1000) (hC : C ≤ 1099511627776)
    (hfit : ∀ j (hj : j < fs.length), ((fs.take j).foldl Ld.one ⟨⟨nm, 1, 0, []⟩, 0, 0, false⟩).fits fs[j]) (s : Ld) (hsf : fs.foldl Ld.one ⟨⟨nm, 1, 0, []⟩, 0, 0, false⟩ = s)
    (hend : (s.used = s.size ∧ d' = d) ∨ (s.used < s.size ∧ ∃ d1, d1.ops.length ≤ 1000000 ∧ d.tr (pth nm s.x.last) s.used = (0, d1) ∧ d' = d1.sync)) :
    Calls Tryz.prog 7 #[.pointer (some ⟨p, 0, none⟩), .string ⟨nm.toArray⟩] W fun e w' => ∃ q, e = .returned (.tuple #[.pointer (some ⟨q, 0, none⟩), .int .i64 0]) ∧ Wa w0 C G w' q p s.x d' ∧ Kp G W w' := by
  obtain ⟨M, B, k1, k2, k3⟩ := h.ex
  have h21 := hide (read_any k1 [] (by unfold maxLen; simp))
  rw [show d.rd [] = ([], 2) by unfold PD.rd; rw [if_pos (by decide)]] at h21
  simp only at h21
  have h22 := hide (fun W => Tryz.strings_Contains_one ⟨nm.toArray⟩ 47 W)
  rw [show decide (0 ≤ Lib.indexByte ((⟨nm.toArray⟩ : ByteArray).data.toList) 47) = false from decide_eq_false hc] at h22
  have h23 := hide (fun W' (hbw : Bel W W') => load_any (wa_box (h.up hbw) nm) hg hn hn2 ⟨by show 1 ≤ 100000; omega, rfl⟩ fs hs h1 hl hb hrd hol hC hfit s hsf hend)
  have hle : 1 ≤ nm.length := by cases nm with | nil => exact absurd rfl hn | cons _ _ => simp
  have q1 : ¬ ((nm.length : Int) < 1) := by omega
  have q2 : ¬ ((64 : Int) < (nm.length : Int)) := by omega
  have H := hide h
  clear h k1 k2 k3 hs h1 hb hrd hfit hsf hend hc hn
  unfold vS at h23
  go_enter Tryz.func7, Tryz.ntmps7
  go_wp2_with (first
    | (go_at_call 21; refine (unhide h21).mono ?_; rintro e w1 ⟨rfl, hb1⟩)
    | (go_at_call 22; refine ((unhide h22) _).mono ?_; rintro e w2 ⟨rfl, hw2⟩; rw [hw2]; clear hw2)
    | (go_at_call 23; refine ((unhide h23) _ hb1).mono ?_; rintro e w3 ⟨rfl, hwa, hkp⟩))
  go_ret2
  exact ⟨_, rfl, hwa, ((hb1.alloc _).kp (unhide H).lt).trans hkp⟩
/-- Open of a disk with no file. -/
theorem open_new {w0 W : World} {C : Nat} {G : Nat → Prop} {p : Nat} {d : PD} (h : Da w0 C G W p d) (hg : Gl w0) (nm : List UInt8) (hn : nm ≠ []) (hn2 : nm.length ≤ 64) (hc : ¬ 0 ≤ Lib.indexByte nm 47) (hs : d.seen = []) (hol : d.ops.length ≤ 1000) (hC : C ≤ 1099511627776) :
    Calls Tryz.prog 7 #[.pointer (some ⟨p, 0, none⟩), .string ⟨nm.toArray⟩] W fun e w' => ∃ q, e = .returned (.tuple #[.pointer (some ⟨q, 0, none⟩), .int .i64 0]) ∧ Wa w0 C G w' q p ⟨nm, 1, 0, []⟩ d ∧ Kp G W w' :=
  open_any h hg nm hn hn2 hc [] (by rw [hs]; rfl) (by simp) (by simp) (by simp) (by simp) hol hC (fun j hj => absurd hj (by simp)) ⟨⟨nm, 1, 0, []⟩, 0, 0, false⟩ rfl (Or.inl ⟨rfl, rfl⟩)
set_option maxRecDepth 100000 in
set_option maxHeartbeats 4000000 in
theorem alive_any (w : World) (hg : Gl w) : Calls Tryz.prog 17 #[] w fun e w' => e = .returned (.bool true) ∧ Bel w w' := by
  have hnm : ([108, 111, 103] : List UInt8) ≠ [] := by simp
  have h6 := hide (new_any 65536 (by omega) 1000 w)
  have HG := hide hg
  have hi0 := inv_new [108, 111, 103] 65536 hnm (by decide)
  have hcan := hide (inv_cans hi0 [[97], [98]] (by decide) (by decide) (by show 308 * 3 ≤ (PD.new 65536).room; decide))
  have hits := inv_its [[97], [98]] hi0 (by decide) (by decide) (by show 308 * 3 ≤ (PD.new 65536).room; decide)
  have hrs := its_rs [[97], [98]] ⟨[108, 111, 103], 1, 0, []⟩ (PD.new 65536)
  clear hi0
  go_enter Tryz.func17, Tryz.ntmps17
  go_wp2_with fail
  refine (unhide h6).mono ?_
  rintro e w1 ⟨p, rfl, hd1, hb1⟩
  have HDA : Hid (Da w 1000 (fun i => i < w.heap.size) w1 p (PD.new 65536)) := da_new hd1 hb1 (Bel.refl w) (fun i hi => hi) (fun i hi => hi)
  clear hd1
  go_wp2_with fail
  refine (open_new (unhide HDA) (unhide HG) [108, 111, 103] hnm (by decide) (by decide) rfl (by decide) (by decide)).mono ?_
  rintro e w2 ⟨q, rfl, hwa2, hkp2⟩
  have H2 := hide hwa2
  clear hwa2 hkp2
  go_wp2_with fail
  have hba := (Bel.refl w2).alloc (.cells #[.string ⟨#[97]⟩, .string ⟨#[98]⟩] 9)
  have H3 := hide ((unhide H2).more hba)
  have hsz : w2.heap.size < (w2.alloc (.cells #[.string ⟨#[97]⟩, .string ⟨#[98]⟩] 9)).heap.size := by simp
  have hat := at_new w2 (.cells #[.string ⟨#[97]⟩, .string ⟨#[98]⟩] 9)
  refine (wapp_any (unhide H3) (unhide HG) hnm [[97], [98]] 2 2 w2.heap.size 0 _ rfl (by decide) (fun _ => rfl) (fun _ => Or.inr ⟨Nat.le_refl _, hsz⟩) (fun j hj => ?_) (by decide) (by decide) (unhide hcan)).mono ?_
  · rcases j with _ | _ | j
    · exact cell_of hat
    · exact cell_of hat
    · exact absurd hj (by simp)
  rintro e w3 ⟨rfl, hwa3, hkp3⟩
  have hb3 : Hid (Bel w w3) := hwa3.bel
  generalize List.foldl stp (⟨[108, 111, 103], 1, 0, []⟩, PD.new 65536) [[97], [98]] = sx at hwa3 hits hrs
  obtain ⟨⟨nm3, fi3, la3, rs3⟩, sd⟩ := sx
  simp only at hwa3 hits hrs
  obtain ⟨hr1, rfl, rfl⟩ := hrs
  obtain ⟨e1, e2, rfl⟩ : ∃ e1 e2, rs3 = [([97], e1), ([98], e2)] := by
    rcases rs3 with _ | ⟨⟨a, e1⟩, _ | ⟨⟨b, e2⟩, _ | ⟨c, r⟩⟩⟩
    · simp at hr1
    · simp at hr1
    · simp at hr1; exact ⟨e1, e2, by rw [hr1.1, hr1.2]⟩
    · simp at hr1
  have hI := hide (hits.1.is (by decide))
  have H4 := hide hwa3
  have h14a := hide (at_any (unhide H4) (unhide hI) 2 (by show 1 ≤ 2; decide) (by show 2 < 1 + 2; decide))
  have h14b := hide (fun W (hb : Bel w3 W) => at_none ((unhide H4).up hb) (unhide hI) 3 (by show 1 ≤ 3; decide) (by show 1 + 2 ≤ 3; decide))
  have h12 := hide (fun W (hb : Bel w3 W) => first_any ((unhide H4).up hb) (unhide hI))
  have h13 := hide (fun W (hb : Bel w3 W) => next_any ((unhide H4).up hb) (unhide hI))
  simp only [vS] at h14a h14b
  clear hits hr1 hwa3 hkp3 hat
  go_wp2_with fail
  refine (unhide h14a).mono ?_
  rintro e w4 ⟨rfl, hb4⟩
  go_wp2_with fail
  refine ((unhide h14b) w4 hb4).mono ?_
  rintro e w5 ⟨rfl, hb5⟩
  have hb45 := hb4.trans hb5
  go_wp2_with fail
  refine ((unhide h12) w5 hb45).mono ?_
  rintro e w6 ⟨rfl, hw6⟩
  rw [hw6]
  clear hw6
  go_wp2_with fail
  refine ((unhide h13) w5 hb45).mono ?_
  rintro e w7 ⟨rfl, hb7⟩
  go_wp2_with fail
  go_ret
  exact ⟨rfl, (unhide hb3).trans (hb45.trans hb7)⟩
end Go.Proofs.YtgimciacapfbfaaGreatDoor
