/- Bytes of the program. -/
import Derived.Test.YtgofdkheffoilaaGreatWre
namespace Go.Proofs.YtgofdkheffoilaaGreat
open Go.RowKit Go.Maps
/-- Rows of numbers without a sign. -/
def EU : El Nat := { enc := fun x => [.int .u64 (x : Int)], k := 1, e := 23, t := 66, bytes := 8, z := .int .u64 0, hk := by decide, len := fun _ => rfl, one := fun x u hu => by simp at hu; rw [hu]; rfl, ht := Tryz.underlying66, hi := by kernel_rfl, hz := rfl, hb := by decide }
theorem EU_cell {W : World} {g off : Nat} {l : List Nat} (h : EU.R W g off l) (j : Nat) (hj : j < l.length) : W.cell? ⟨g, off + j, none⟩ = some (.int .u64 (l[j] : Int)) := by
  have := h j hj 0 _ rfl
  simpa [EU] using this
theorem EU_new (W : World) (l : List Nat) : EU.R (W.alloc (.cells (l.map fun (x : Nat) => Value.int .u64 (x : Int)).toArray 23)) W.heap.size 0 l := fun j hj c u hu => by
  have hc : c = 0 ∧ u = .int .u64 (l[j] : Int) := by
    cases c with
    | zero => simp [EU] at hu; exact ⟨rfl, hu.symm⟩
    | succ c => simp [EU] at hu
  obtain ⟨rfl, rfl⟩ := hc
  rw [cell_of (at_new W _)]
  simp [EU, hj]
/-- A message's kind, numbers and truth as bytes. -/
def hdb (m : GM) : List UInt8 := UInt8.ofNat m.kind.toNat :: ([m.frm.toNat, m.to.toNat, m.term.toNat, m.index.toNat, m.lterm.toNat, m.commit.toNat, m.round.toNat].flatMap num ++ [if m.ok then 1 else 0])
def entsb (l : List GE) : List UInt8 := l.flatMap (fun e => (entb e).data.toList)
def msgb (m : GM) : List UInt8 := hdb m ++ num m.ents.length ++ entsb m.ents ++ idb m.mem ++ (ctx m.snap).data.toList
/-- Entries whose bytes can be told. -/
def Eok (e : GE) : Prop := (0 ≤ e.t ∧ e.t < 18446744073709551616) ∧ (0 ≤ e.k ∧ e.k < 256) ∧ e.d.size ≤ 1048576 ∧ e.m.length ≤ 1048576 ∧ ∀ y ∈ e.m, 0 ≤ y ∧ y < 9223372036854775808
theorem ctx_len (s : ByteArray) (h : s.size < 1000000000) : (ctx s).size ≤ 9 + s.size := by
  unfold ctx
  rw [ByteArray.size_append, show (⟨(num s.size).toArray⟩ : ByteArray).size = (num s.size).length from List.size_toArray]
  have := num_len s.size (by omega)
  omega
theorem entb_len {e : GE} (h : Eok e) : (entb e).size ≤ 11000000 := by
  have h1 := num_len e.t.toNat (by have := h.1; omega)
  have h2 := ctx_len e.d (by have := h.2.2.1; omega)
  have h3 := idb_len e.m h.2.2.2.2 (by have := h.2.2.2.1; omega)
  have h4 := h.2.2.1
  have h5 := h.2.2.2.1
  unfold entb
  rw [ByteArray.size_append, ByteArray.size_append, ByteArray.size_append, show (⟨(num e.t.toNat).toArray⟩ : ByteArray).size = (num e.t.toNat).length from List.size_toArray, show (⟨(idb e.m).toArray⟩ : ByteArray).size = (idb e.m).length from List.size_toArray, show (⟨#[UInt8.ofNat e.k.toNat]⟩ : ByteArray).size = 1 from rfl]
  omega
theorem entsb_len : ∀ l : List GE, (∀ e ∈ l, Eok e) → (entsb l).length ≤ 11000000 * l.length
  | [], _ => by simp [entsb]
  | e :: l, h => by
    have h1 := entsb_len l (fun x hx => h x (List.mem_cons_of_mem _ hx))
    have h2 := entb_len (h e List.mem_cons_self)
    unfold entsb at *
    rw [List.flatMap_cons, List.length_append, List.length_cons]
    have : (entb e).data.toList.length = (entb e).size := rfl
    omega
theorem flat_len : ∀ l : List Nat, (∀ x ∈ l, x < 2 ^ 64) → (l.flatMap num).length ≤ 9 * l.length
  | [], _ => by simp
  | x :: l, h => by
    have h1 := flat_len l (fun y hy => h y (List.mem_cons_of_mem _ hy))
    have h2 := num_len x (h x List.mem_cons_self)
    rw [List.flatMap_cons, List.length_append, List.length_cons]
    omega
theorem Bd.wsl {W w : World} {b : Nat} {l : List UInt8} (h : Bd W w b l) (k : List UInt8) (hl : l.length + k.length ≤ 140737488355328) : Calls Tryz.prog 21 #[.pointer (some ⟨b, 0, none⟩), .string ⟨k.toArray⟩] w fun e w' => e = .returned (.tuple #[.int .i64 (⟨k.toArray⟩ : ByteArray).size, .nilIface]) ∧ Bd W w' b (l ++ k) ∧ Ok5 b w w' :=
  h.ws ⟨k.toArray⟩ (by rw [show (⟨k.toArray⟩ : ByteArray).size = k.length from List.size_toArray]; exact hl)
/-- A message in its box, and a builder. -/
structure Bq (W w : World) (b bb : Nat) (m : GM) (x : GX) (l : List UInt8) : Prop where
  row : w.heap[b]? = some (.cells (mg m x) 27)
  bd : Bd W w bb l
  ne : b ≠ bb
theorem Bq.next {W w w' : World} {b bb : Nat} {m : GM} {x : GX} {l : List UInt8} (h : Bq W w b bb m x l) (hb : Bel w w') : Bq W w' b bb m x l := ⟨hb.row h.row, h.bd.next hb, h.ne⟩
theorem Bq.wrote {W w w' : World} {b bb : Nat} {m : GM} {x : GX} {l k : List UInt8} (h : Bq W w b bb m x l) (hd : Bd W w' bb k) (ho : Ok5 bb w w') : Bq W w' b bb m x k := ⟨ho.row h.row h.ne (by decide), hd, h.ne⟩
set_option maxRecDepth 100000 in
set_option maxHeartbeats 4000000 in
theorem bytes_yes {W : World} {m : GM} {x : GX} (h : Gw W m x) (kd fr tn te ix lt co ro : Nat) (e0 : m.kind = kd) (e1 : m.frm = fr) (e2 : m.to = tn) (e3 : m.term = te) (e4 : m.index = ix) (e5 : m.lterm = lt) (e6 : m.commit = co) (e7 : m.round = ro) (b0 : kd < 256) (b1 : fr < 100) (b2 : tn < 100) (b3 : te < 2 ^ 64) (b4 : ix < 2 ^ 64) (b5 : lt < 2 ^ 64) (b6 : co < 2 ^ 64) (b7 : ro < 2 ^ 64) (hl : m.ents.length ≤ 60) (hE : ∀ e ∈ m.ents, Eok e) (hm : m.mem.length ≤ 1048576) (hM : ∀ y ∈ m.mem, 0 ≤ y ∧ y < 9223372036854775808) (hs : m.snap.size ≤ 1048576) (hmay : ∀ W', Bel W W' → Calls Tryz.prog 19 #[.agg (mg m x)] W' fun e w' => e = .returned (.int .i64 0) ∧ Bel W' w') :
    Calls Tryz.prog 6 #[.agg (mg m x)] W fun e w' => e = .returned (.tuple #[.string ⟨(msgb m).toArray⟩, .int .i64 0]) ∧ Bel W w' := by
  have hle : x.ls.length = m.ents.length := by rw [← h.e, List.length_map]
  have HM := hide hmay
  have HN := hide (fun (k : Nat) (hk : Hid (k < 2 ^ 64)) W' => num_any k hk W')
  have HI : Hid (∀ W', Bel W W' → Calls Tryz.prog 24 #[.slice x.ma m.mem.length x.mc] W' fun e w' => e = .returned (.string ⟨(idb m.mem).toArray⟩) ∧ Bel W' w') := hide (fun W' hb => idBytes_any (h.m.bel hb) x.mc hM hm)
  have HT : Hid (∀ W', Calls Tryz.prog 25 #[.string m.snap] W' fun e w' => e = .returned (.string (ctx m.snap)) ∧ Bel W' w') := hide (fun W' => ctext_any m.snap (by omega) W')
  have HEn : Hid (∀ y ∈ x.ls, ∀ W', Bel W W' → Calls Tryz.prog 23 #[.agg (encG y).toArray] W' fun e w' => e = .returned (.string (entb y.1)) ∧ Bel W' w') := hide (fun y hy W' hb => by
    have hk := hE y.1 (by rw [← h.e]; exact List.mem_map.2 ⟨y, hy, rfl⟩)
    exact entBytes_any y ((h.g y hy).bel hb) hk.2.2.2.2 hk.2.2.2.1 (by have := hk.2.2.1; omega) y.1.t.toNat y.1.k.toNat (by have := hk.1; omega) (by have := hk.2.1; omega) (by have := hk.1; omega) (by have := hk.2.1; omega))
  have q1 := flat_len [fr, tn, te, ix, lt, co, ro] (by intro y hy; simp at hy; rcases hy with rfl | rfl | rfl | rfl | rfl | rfl | rfl <;> omega)
  have q2 := num_len m.ents.length (by omega)
  have q3 := entsb_len m.ents hE
  have q4 := idb_len m.mem hM (by omega)
  have q5 := ctx_len m.snap (by omega)
  obtain ⟨g, off, hg, hR⟩ := h.l
  have HG := hide hg
  have HR := hide hR
  have HQ := hide (And.intro q1 (And.intro q2 (And.intro q3 (And.intro q4 (And.intro q5 (And.intro hl (And.intro hm hs)))))))
  have HLE := hide hle
  have HBM := hide h.e
  have w1 : IntKind.u64.wrap (fr : Int) = (fr : Int) := by rw [IntKind.wrap_u64]; omega
  have w2 : IntKind.u64.wrap (tn : Int) = (tn : Int) := by rw [IntKind.wrap_u64]; omega
  have w3 : IntKind.u64.wrap (m.ents.length : Int) = (m.ents.length : Int) := by rw [IntKind.wrap_u64]; omega
  have HNums : Hid (∀ y ∈ [fr, tn, te, ix, lt, co, ro], y < 2 ^ 64) := hide (by intro y hy; simp at hy; rcases hy with rfl | rfl | rfl | rfl | rfl | rfl | rfl <;> omega)
  have HEk := hide hE
  have HNe : Hid (m.ents.length < 2 ^ 64) := hide (by omega)
  have HK0 := hide b0
  have HB : Hid (msgb m = ((((UInt8.ofNat kd :: [fr, tn, te, ix, lt, co, ro].flatMap num) ++ [if m.ok then 1 else 0]) ++ num m.ents.length) ++ entsb m.ents) ++ idb m.mem ++ (ctx m.snap).data.toList) := hide (by unfold msgb hdb; rw [e0, e1, e2, e3, e4, e5, e6, e7]; simp)
  rw [unhide HB]
  clear HB q1 q2 q3 q4 q5 hl hE hm hM hs hmay h hg hR hle b0 b1 b2 b3 b4 b5 b6 b7
  generalize hnums : [fr, tn, te, ix, lt, co, ro] = nums at *
  have HNL : Hid (nums = [fr, tn, te, ix, lt, co, ro]) := hide hnums.symm
  clear hnums
  go_enter Tryz.func6, Tryz.ntmps6
  go_wp2_with (first
    | go_skip
    | (refine bx_box rfl 27 _ rfl (mg m x) rfl ?_; intro b w0 hr0 hs0 hb0; have HZ := hide (And.intro hr0 hb0); clear hr0 hs0 hb0)
    | (refine bx_ld rfl 27 (.tmp 1) rfl b rfl _ _ (unhide HZ).1 Tryz.underlying27 (szM _ _) ?_)
    | (go_at_call 19; refine ((unhide HM) _ (unhide HZ).2).mono ?_; rintro e w1' ⟨rfl, hb1⟩; replace HZ := hide (And.intro (hb1.row (unhide HZ).1) ((unhide HZ).2.trans hb1)); have c0 : (w1'.alloc (.cells #[.pointer none, .slice none 0 0] 62)).cell? ⟨b, 0, none⟩ = some (.int .u8 (kd : Int)) := (Mb2.of (((Bel.refl w1').alloc _).row (unhide HZ).1)).c0.trans (by rw [e0]); clear hb1)
    | (go_at_call 20; refine ((Bd.new (unhide HZ).2).wb kd (unhide HK0) (by simp)).mono ?_; rintro e w2' ⟨rfl, hd2, ho2⟩; have HQ2 : Hid (Bq W w2' b w1'.heap.size m x [UInt8.ofNat kd]) := hide ⟨ho2.row (((Bel.refl w1').alloc _).row (unhide HZ).1) (Nat.ne_of_lt (lt_of_some (unhide HZ).1)) (by decide), hd2, Nat.ne_of_lt (lt_of_some (unhide HZ).1)⟩; obtain ⟨_, c1, c2, c3, c4, c5, c6, c7, _, _, _, _⟩ := Mb2.of (unhide HQ2).row; rw [e1] at c1; rw [e2] at c2; rw [e3] at c3; rw [e4] at c4; rw [e5] at c5; rw [e6] at c6; rw [e7] at c7; clear hd2 ho2 c0))
  have hrow : (w2'.alloc (.cells #[.int .u64 (fr : Int), .int .u64 (tn : Int), .int .u64 (te : Int), .int .u64 (ix : Int), .int .u64 (lt : Int), .int .u64 (co : Int), .int .u64 (ro : Int)] 23)).heap[w2'.heap.size]? = some (.cells (nums.map fun (y : Nat) => Value.int .u64 (y : Int)).toArray 23) := by
    rw [unhide HNL]; exact at_new w2' _
  have HQ3 := hide (And.intro ((unhide HQ2).next ((Bel.refl w2').alloc (.cells #[.int .u64 (fr : Int), .int .u64 (tn : Int), .int .u64 (te : Int), .int .u64 (ix : Int), .int .u64 (lt : Int), .int .u64 (co : Int), .int .u64 (ro : Int)] 23))) hrow)
  have HGne : Hid (w2'.heap.size ≠ w1'.heap.size) := hide (fun e => by
    have h1 := (unhide HQ2).bd.is
    have h2 : w1'.heap.size < w2'.heap.size := h1.elim Lib.BuilderAtF.lt Lib.BuilderAtF.lt
    omega)
  have h7 : nums.length = 7 := by rw [unhide HNL]; rfl
  generalize w2'.alloc (.cells #[.int .u64 (fr : Int), .int .u64 (tn : Int), .int .u64 (te : Int), .int .u64 (ix : Int), .int .u64 (lt : Int), .int .u64 (co : Int), .int .u64 (ro : Int)] 23) = w3' at *
  generalize w2'.heap.size = gU at *
  generalize w1'.heap.size = bb at *
  have H7 := hide h7
  clear hrow c1 c2 c3 c4 c5 c6 c7 h7 HQ2
  go_loopw [36] (fun vk wr => ∃ i : Nat, i ≤ 7 ∧ vk = .int .i64 i ∧ Hid (Bq W wr b bb m x ([UInt8.ofNat kd] ++ (nums.take i).flatMap num) ∧ wr.heap[gU]? = some (.cells (nums.map fun (y : Nat) => Value.int .u64 (y : Int)).toArray 23))) (fun vk _ => 7 - (intOf vk).toNat)
  case atStart => exact ⟨0, Nat.zero_le _, rfl, hide ⟨by simpa using (unhide HQ3).1, (unhide HQ3).2⟩⟩
  case round =>
    obtain ⟨i, hi, rfl, HK⟩ := hrel
    by_cases hlt : i < 7
    · have hil : i < nums.length := by rw [unhide H7]; exact hlt
      have hi7 : (i : Int) < 7 := by omega
      have r0 : wr.cell? ⟨gU, i, none⟩ = some (.int .u64 (nums[i] : Int)) := by rw [cell_of (unhide HK).2]; simp [hil]
      have HY : Hid (nums[i] < 2 ^ 64) := hide ((unhide HNums) _ (List.getElem_mem hil))
      have HT1 : Hid (nums.take (i + 1) = nums.take i ++ [nums[i]]) := hide (by rw [List.take_add_one, List.getElem?_eq_getElem hil]; rfl)
      have HLen : Hid (([UInt8.ofNat kd] ++ (nums.take i).flatMap num).length ≤ 64) := hide (by
        have h1 := flat_len (nums.take i) (fun y hy => (unhide HNums) y (List.mem_of_mem_take hy))
        rw [List.length_take] at h1
        rw [List.length_append, List.length_singleton]
        omega)
      have HLy := hide (num_len nums[i] (unhide HY))
      generalize nums[i] = y at *
      go_wp2_with (first
        | (go_at_call 22; refine ((unhide HN) _ (by assumption) _).mono ?_; rintro e w4 ⟨rfl, hb4⟩; replace HK := hide (And.intro ((unhide HK).1.next hb4) (hb4.row (unhide HK).2)); clear hb4)
        | (go_at_call 21; refine ((unhide HK).1.bd.wsl _ (by have := unhide HLen; have := unhide HLy; omega)).mono ?_; rintro e w5 ⟨rfl, hd5, ho5⟩; replace HK := hide (And.intro ((unhide HK).1.wrote hd5 ho5) (ho5.row (unhide HK).2 (unhide HGne) (by decide))); clear hd5 ho5))
      go_roundw
      case rel => exact ⟨i + 1, by omega, by go_num, hide ⟨by rw [unhide HT1, List.flatMap_append, ← List.append_assoc]; simpa using (unhide HK).1, (unhide HK).2⟩⟩
      case measure => simp [intOf]; omega
    · obtain rfl : i = 7 := by omega
      have HA : Hid (Bq W wr b bb m x (UInt8.ofNat kd :: nums.flatMap num)) := hide (by have := (unhide HK).1; rwa [List.take_of_length_le (by rw [unhide H7]; omega)] at this)
      have HLA : Hid ((UInt8.ofNat kd :: nums.flatMap num).length ≤ 64) := hide (by
        have h1 := flat_len nums (unhide HNums)
        rw [unhide H7] at h1
        rw [List.length_cons]
        omega)
      clear HK HQ3
      generalize hL1 : (UInt8.ofNat kd :: nums.flatMap num) = L1 at *
      have HL1 := hide hL1
      clear hL1
      have c8 := (Mb2.of (unhide HA).row).c8
      have HQb := unhide HQ
      have HQ' := hide HQb
      clear HQb HNums H7 HGne HK0
      have HLE2 : Hid ((num m.ents.length).length ≤ 9) := hide (unhide HQ).2.1
      cases hok : m.ok
      · rw [hok] at c8
        go_wp2_with (first
          | (go_at_call 20; refine ((unhide HA).bd.wb 0 (show (0:Nat) < 256 by decide) (by have := unhide HLA; omega)).mono ?_; rintro e w6 ⟨rfl, hd6, ho6⟩; replace HA := hide ((unhide HA).wrote hd6 ho6); have c9 := (Mb2.of (unhide HA).row).c9; clear hd6 ho6 c8)
          | (go_at_call 22; refine ((unhide HN) _ HNe _).mono ?_; rintro e w7 ⟨rfl, hb7⟩; replace HA := hide ((unhide HA).next hb7); clear hb7 c9)
          | (go_at_call 21; refine ((unhide HA).bd.wsl _ (by have z1 := unhide HLA; have z2 := unhide HLE2; have z3 := @List.length_append _ L1 [UInt8.ofNat 0]; rw [z3, List.length_singleton]; omega)).mono ?_; rintro e w8 ⟨rfl, hd8, ho8⟩; replace HA := hide ((unhide HA).wrote hd8 ho8); have c9 := (Mb2.of (unhide HA).row).c9; clear hd8 ho8))
        have HL2 : Hid ((L1 ++ [UInt8.ofNat 0] ++ num m.ents.length).length ≤ 80) := hide (by have z1 := unhide HLA; have z2 := unhide HLE2; rw [List.length_append, List.length_append, List.length_singleton]; omega)
        generalize hL2 : L1 ++ [UInt8.ofNat 0] ++ num m.ents.length = L2 at *
        have HL2e := hide hL2
        have HOK := hide hok
        clear hL2
        clear HLA HLE2 c9
        generalize hne : m.ents.length = ne at *
        generalize x.ea = ea at *
        have HNE := hide hne
        have hn60 : ne ≤ 60 := (unhide HQ).2.2.2.2.2.1
        clear hne
        go_loopw [57] (fun vk wr => ∃ k : Nat, k ≤ ne ∧ vk = .int .i64 k ∧ Hid (Bq W wr b bb m x (L2 ++ entsb (m.ents.take k)))) (fun vk _ => ne - (intOf vk).toNat)
        case atStart => exact ⟨0, Nat.zero_le _, rfl, hide (by simpa [entsb] using (unhide HA))⟩
        case round =>
          obtain ⟨k, hk, rfl, HK⟩ := hrel
          by_cases hlt : k < ne
          · have hkl : k < x.ls.length := by rw [unhide HLE]; exact hlt
            have hkm : k < m.ents.length := by rw [unhide HNE]; exact hlt
            have hkn : (k : Int) < ne := by omega
            obtain rfl := (unhide HG) (by omega)
            obtain ⟨r0, r1, r2, r3⟩ := EG_cell (unhide HR) k hkl
            have r0 := (unhide HK).bd.bel.cell r0
            have r1 := (unhide HK).bd.bel.cell r1
            have r2 := (unhide HK).bd.bel.cell r2
            have r3 := (unhide HK).bd.bel.cell r3
            have HC : Hid (∀ W', Bel W W' → Calls Tryz.prog 23 #[.agg (encG x.ls[k]).toArray] W' fun e w' => e = .returned (.string (entb x.ls[k].1)) ∧ Bel W' w') := hide ((unhide HEn) _ (List.getElem_mem hkl))
            have HT1 : Hid (entsb (m.ents.take (k + 1)) = entsb (m.ents.take k) ++ (entb x.ls[k].1).data.toList) := hide (by
              have e9 : m.ents[k] = x.ls[k].1 := by
                have z := unhide HBM
                have z2 : (x.ls.map (·.1))[k]? = m.ents[k]? := congrArg (fun l => l[k]?) z
                rw [List.getElem?_map, List.getElem?_eq_getElem hkl, List.getElem?_eq_getElem hkm] at z2
                exact (Option.some.inj z2).symm
              rw [List.take_add_one, List.getElem?_eq_getElem hkm, e9]
              simp [entsb])
            have HLk : Hid ((L2 ++ entsb (m.ents.take k)).length ≤ 80 + 11000000 * 60 ∧ (entb x.ls[k].1).size ≤ 11000000) := hide (by
              have z0 := (unhide HQ).2.2.2.2.2.1
              have z9 := (unhide HEk)
              have z3 := entsb_len (m.ents.take k) (fun e he => z9 e (List.mem_of_mem_take he))
              have z4 : (m.ents.take k).length ≤ 60 := by rw [List.length_take]; omega
              have z5 := Nat.mul_le_mul_left 11000000 z4
              refine ⟨by rw [List.length_append]; have z1 := unhide HL2; omega, entb_len (z9 _ ?_)⟩
              rw [← unhide HBM]; exact List.mem_map.2 ⟨_, List.getElem_mem hkl, rfl⟩)
            generalize x.ls[k] = y at *
            obtain ⟨⟨t, kd', d, mm⟩, ax, cx⟩ := y
            unfold encG at HC
            simp only at r0 r1 r2 r3 HC HT1 HLk
            generalize entb ⟨t, kd', d, mm⟩ = eb at *
            generalize mm.length = nm at *
            have HB := hide (unhide HK).bd.bel
            clear HEn HEk HG HR HLE HBM HQ HNL HN HI HT
            go_wp2_with (first
              | (go_at_call 23; refine ((unhide HC) _ ((unhide HB).alloc _)).mono ?_; rintro e w9 ⟨rfl, hb9⟩; replace HK := hide ((unhide HK).next (((Bel.refl wr).alloc _).trans hb9)); clear hb9)
              | (go_at_call 21; refine ((unhide HK).bd.ws eb (by have z1 := (unhide HLk).1; have z2 := (unhide HLk).2; omega)).mono ?_; rintro e w10 ⟨rfl, hd10, ho10⟩; have HK2 := hide ((unhide HK).wrote hd10 ho10); clear hd10 ho10))
            go_roundw
            case rel => exact ⟨k + 1, by omega, by go_num, hide (by rw [unhide HT1, ← List.append_assoc]; exact unhide HK2)⟩
            case measure => simp [intOf]; omega
          · obtain rfl : k = ne := by omega
            have hkk : ¬ ((k : Int) < (k : Int)) := Int.lt_irrefl _
            have HA2 : Hid (Bq W wr b bb m x (L2 ++ entsb m.ents)) := hide (by have := unhide HK; rwa [List.take_of_length_le (by rw [unhide HNE]; omega)] at this)
            have HLb : Hid ((L2 ++ entsb m.ents).length ≤ 80 + 11000000 * 60) := hide (by
              rw [List.length_append]
              have z1 := unhide HL2
              have z2 := (unhide HQ).2.2.1
              have z3 := (unhide HQ).2.2.2.2.2.1
              have z4 := Nat.mul_le_mul_left 11000000 z3
              omega)
            have HLc := hide (unhide HQ).2.2.2.1
            have HLd := hide (unhide HQ).2.2.2.2.1
            have HLm := hide (unhide HQ).2.2.2.2.2.2
            clear HK HQ HA HL2 HEn HR HG HLE HBM HEk
            generalize hL3 : (L2 ++ entsb m.ents) = L3 at *
            have HL3 := hide hL3
            clear hL3
            have c10 := (Mb2.of (unhide HA2).row).c10
            have HBl := hide (unhide HA2).bd.bel
            have HIl : Hid ((idb m.mem).length ≤ 9 * (1048576 + 1)) := hide (by have z2 := unhide HLc; have z3 := (unhide HLm).1; omega)
            go_wp2_with (first
              | (go_at_call 24; refine ((unhide HI) _ (unhide HBl)).mono ?_; rintro e w9 ⟨rfl, hb9⟩; replace HA2 := hide ((unhide HA2).next hb9); clear hb9 c10)
              | (go_at_call 25; refine ((unhide HT) _).mono ?_; rintro e w11 ⟨rfl, hb11⟩; have HA4 := hide ((unhide HA3).next hb11); clear hb11 c11)
              | (go_at_call 21; refine ((unhide HA4).bd.ws _ (by have z1 := unhide HLb; have z2 := unhide HIl; have z3 := (unhide HLm).2; have z4 := unhide HLd; rw [List.length_append]; omega)).mono ?_; rintro e w12 ⟨rfl, hd12, ho12⟩; have HA5 := hide ((unhide HA4).wrote hd12 ho12); clear hd12 ho12)
              | (go_at_call 21; refine ((unhide HA2).bd.wsl _ (by have z1 := unhide HLb; have z2 := unhide HIl; omega)).mono ?_; rintro e w10 ⟨rfl, hd10, ho10⟩; have HA3 := hide ((unhide HA2).wrote hd10 ho10); have c11 := (Mb2.of (unhide HA3).row).c11; clear hd10 ho10 HA2)
              | (go_at_call 26; go_loud (refine ((unhide HA5).bd.str).mono ?_; rintro e w13 ⟨rfl, hb13⟩; have HZ9 := hide hb13; clear hb13)))
            all_goals first
              | (exfalso; simp_all; done)
              | (go_ret2; refine ⟨?_, unhide HZ9⟩; rw [← unhide HL3, ← unhide HL2e, ← unhide HL1]; simp [unhide HNE])
      · rw [hok] at c8
        go_wp2_with (first
          | (go_at_call 20; refine ((unhide HA).bd.wb 1 (show (1:Nat) < 256 by decide) (by have := unhide HLA; omega)).mono ?_; rintro e w6 ⟨rfl, hd6, ho6⟩; replace HA := hide ((unhide HA).wrote hd6 ho6); have c9 := (Mb2.of (unhide HA).row).c9; clear hd6 ho6 c8)
          | (go_at_call 22; refine ((unhide HN) _ HNe _).mono ?_; rintro e w7 ⟨rfl, hb7⟩; replace HA := hide ((unhide HA).next hb7); clear hb7 c9)
          | (go_at_call 21; refine ((unhide HA).bd.wsl _ (by have z1 := unhide HLA; have z2 := unhide HLE2; have z3 := @List.length_append _ L1 [UInt8.ofNat 1]; rw [z3, List.length_singleton]; omega)).mono ?_; rintro e w8 ⟨rfl, hd8, ho8⟩; replace HA := hide ((unhide HA).wrote hd8 ho8); have c9 := (Mb2.of (unhide HA).row).c9; clear hd8 ho8))
        have HL2 : Hid ((L1 ++ [UInt8.ofNat 1] ++ num m.ents.length).length ≤ 80) := hide (by have z1 := unhide HLA; have z2 := unhide HLE2; rw [List.length_append, List.length_append, List.length_singleton]; omega)
        generalize hL2 : L1 ++ [UInt8.ofNat 1] ++ num m.ents.length = L2 at *
        have HL2e := hide hL2
        have HOK := hide hok
        clear hL2
        clear HLA HLE2 c9
        generalize hne : m.ents.length = ne at *
        generalize x.ea = ea at *
        have HNE := hide hne
        have hn60 : ne ≤ 60 := (unhide HQ).2.2.2.2.2.1
        clear hne
        go_loopw [57] (fun vk wr => ∃ k : Nat, k ≤ ne ∧ vk = .int .i64 k ∧ Hid (Bq W wr b bb m x (L2 ++ entsb (m.ents.take k)))) (fun vk _ => ne - (intOf vk).toNat)
        case atStart => exact ⟨0, Nat.zero_le _, rfl, hide (by simpa [entsb] using (unhide HA))⟩
        case round =>
          obtain ⟨k, hk, rfl, HK⟩ := hrel
          by_cases hlt : k < ne
          · have hkl : k < x.ls.length := by rw [unhide HLE]; exact hlt
            have hkm : k < m.ents.length := by rw [unhide HNE]; exact hlt
            have hkn : (k : Int) < ne := by omega
            obtain rfl := (unhide HG) (by omega)
            obtain ⟨r0, r1, r2, r3⟩ := EG_cell (unhide HR) k hkl
            have r0 := (unhide HK).bd.bel.cell r0
            have r1 := (unhide HK).bd.bel.cell r1
            have r2 := (unhide HK).bd.bel.cell r2
            have r3 := (unhide HK).bd.bel.cell r3
            have HC : Hid (∀ W', Bel W W' → Calls Tryz.prog 23 #[.agg (encG x.ls[k]).toArray] W' fun e w' => e = .returned (.string (entb x.ls[k].1)) ∧ Bel W' w') := hide ((unhide HEn) _ (List.getElem_mem hkl))
            have HT1 : Hid (entsb (m.ents.take (k + 1)) = entsb (m.ents.take k) ++ (entb x.ls[k].1).data.toList) := hide (by
              have e9 : m.ents[k] = x.ls[k].1 := by
                have z := unhide HBM
                have z2 : (x.ls.map (·.1))[k]? = m.ents[k]? := congrArg (fun l => l[k]?) z
                rw [List.getElem?_map, List.getElem?_eq_getElem hkl, List.getElem?_eq_getElem hkm] at z2
                exact (Option.some.inj z2).symm
              rw [List.take_add_one, List.getElem?_eq_getElem hkm, e9]
              simp [entsb])
            have HLk : Hid ((L2 ++ entsb (m.ents.take k)).length ≤ 80 + 11000000 * 60 ∧ (entb x.ls[k].1).size ≤ 11000000) := hide (by
              have z0 := (unhide HQ).2.2.2.2.2.1
              have z9 := (unhide HEk)
              have z3 := entsb_len (m.ents.take k) (fun e he => z9 e (List.mem_of_mem_take he))
              have z4 : (m.ents.take k).length ≤ 60 := by rw [List.length_take]; omega
              have z5 := Nat.mul_le_mul_left 11000000 z4
              refine ⟨by rw [List.length_append]; have z1 := unhide HL2; omega, entb_len (z9 _ ?_)⟩
              rw [← unhide HBM]; exact List.mem_map.2 ⟨_, List.getElem_mem hkl, rfl⟩)
            generalize x.ls[k] = y at *
            obtain ⟨⟨t, kd', d, mm⟩, ax, cx⟩ := y
            unfold encG at HC
            simp only at r0 r1 r2 r3 HC HT1 HLk
            generalize entb ⟨t, kd', d, mm⟩ = eb at *
            generalize mm.length = nm at *
            have HB := hide (unhide HK).bd.bel
            clear HEn HEk HG HR HLE HBM HQ HNL HN HI HT
            go_wp2_with (first
              | (go_at_call 23; refine ((unhide HC) _ ((unhide HB).alloc _)).mono ?_; rintro e w9 ⟨rfl, hb9⟩; replace HK := hide ((unhide HK).next (((Bel.refl wr).alloc _).trans hb9)); clear hb9)
              | (go_at_call 21; refine ((unhide HK).bd.ws eb (by have z1 := (unhide HLk).1; have z2 := (unhide HLk).2; omega)).mono ?_; rintro e w10 ⟨rfl, hd10, ho10⟩; have HK2 := hide ((unhide HK).wrote hd10 ho10); clear hd10 ho10))
            go_roundw
            case rel => exact ⟨k + 1, by omega, by go_num, hide (by rw [unhide HT1, ← List.append_assoc]; exact unhide HK2)⟩
            case measure => simp [intOf]; omega
          · obtain rfl : k = ne := by omega
            have hkk : ¬ ((k : Int) < (k : Int)) := Int.lt_irrefl _
            have HA2 : Hid (Bq W wr b bb m x (L2 ++ entsb m.ents)) := hide (by have := unhide HK; rwa [List.take_of_length_le (by rw [unhide HNE]; omega)] at this)
            have HLb : Hid ((L2 ++ entsb m.ents).length ≤ 80 + 11000000 * 60) := hide (by
              rw [List.length_append]
              have z1 := unhide HL2
              have z2 := (unhide HQ).2.2.1
              have z3 := (unhide HQ).2.2.2.2.2.1
              have z4 := Nat.mul_le_mul_left 11000000 z3
              omega)
            have HLc := hide (unhide HQ).2.2.2.1
            have HLd := hide (unhide HQ).2.2.2.2.1
            have HLm := hide (unhide HQ).2.2.2.2.2.2
            clear HK HQ HA HL2 HEn HR HG HLE HBM HEk
            generalize hL3 : (L2 ++ entsb m.ents) = L3 at *
            have HL3 := hide hL3
            clear hL3
            have c10 := (Mb2.of (unhide HA2).row).c10
            have HBl := hide (unhide HA2).bd.bel
            have HIl : Hid ((idb m.mem).length ≤ 9 * (1048576 + 1)) := hide (by have z2 := unhide HLc; have z3 := (unhide HLm).1; omega)
            go_wp2_with (first
              | (go_at_call 24; refine ((unhide HI) _ (unhide HBl)).mono ?_; rintro e w9 ⟨rfl, hb9⟩; replace HA2 := hide ((unhide HA2).next hb9); clear hb9 c10)
              | (go_at_call 25; refine ((unhide HT) _).mono ?_; rintro e w11 ⟨rfl, hb11⟩; have HA4 := hide ((unhide HA3).next hb11); clear hb11 c11)
              | (go_at_call 21; refine ((unhide HA4).bd.ws _ (by have z1 := unhide HLb; have z2 := unhide HIl; have z3 := (unhide HLm).2; have z4 := unhide HLd; rw [List.length_append]; omega)).mono ?_; rintro e w12 ⟨rfl, hd12, ho12⟩; have HA5 := hide ((unhide HA4).wrote hd12 ho12); clear hd12 ho12)
              | (go_at_call 21; refine ((unhide HA2).bd.wsl _ (by have z1 := unhide HLb; have z2 := unhide HIl; omega)).mono ?_; rintro e w10 ⟨rfl, hd10, ho10⟩; have HA3 := hide ((unhide HA2).wrote hd10 ho10); have c11 := (Mb2.of (unhide HA3).row).c11; clear hd10 ho10 HA2)
              | (go_at_call 26; go_loud (refine ((unhide HA5).bd.str).mono ?_; rintro e w13 ⟨rfl, hb13⟩; have HZ9 := hide hb13; clear hb13)))
            all_goals first
              | (exfalso; simp_all; done)
              | (go_ret2; refine ⟨?_, unhide HZ9⟩; rw [← unhide HL3, ← unhide HL2e, ← unhide HL1]; simp [unhide HNE])
end Go.Proofs.YtgofdkheffoilaaGreat
