/- A disk of the document in memory: New, Used, Read. -/
import Derived.Test.YtpngcmlaimcceaaDoc
namespace Go.Proofs.Ytpngcmlaimcceaa
open Go.RowKit Go.Maps Go.WideMaps
/-- The cells of a row of things. -/
def ocs : List Op5 → List Value
  | [] => []
  | o :: r => .int .i64 (oC o) :: .string ⟨(oN o).toArray⟩ :: .string ⟨(oT o).toArray⟩ :: .int .i64 (oK o) :: ocs r
theorem ocs_app : ∀ a b : List Op5, ocs (a ++ b) = ocs a ++ ocs b
  | [], _ => rfl
  | p :: r, b => by rw [List.cons_append, ocs, ocs, ocs_app r b]; rfl
theorem ocs_at : ∀ (l : List Op5) (k : Nat) (h : k < l.length), (ocs l)[k * 4]? = some (.int .i64 (oC l[k])) ∧ (ocs l)[k * 4 + 1]? = some (.string ⟨(oN l[k]).toArray⟩) ∧ (ocs l)[k * 4 + 2]? = some (.string ⟨(oT l[k]).toArray⟩) ∧ (ocs l)[k * 4 + 3]? = some (.int .i64 (oK l[k]))
  | p :: r, 0, _ => ⟨rfl, rfl, rfl, rfl⟩
  | p :: r, k + 1, h => by
    have := ocs_at r k (by simpa using h)
    rw [show (k + 1) * 4 = k * 4 + 1 + 1 + 1 + 1 by omega]
    exact this
/-- The four cells of the document's disk and what they lead to. -/
structure Dc (w : World) (p : Nat) (vk vo vn : Value) (room : Int) (seen synced : Fs) (ops : List Op5) : Prop where
  row : w.heap[p]? = some (.cells #[.int .i64 room, vk, vo, vn] 34)
  kept : Rf w vk synced
  now : Rf w vn seen
  ops : w.ownsRow 0 60 4 vo ops.length (ocs ops)
  n1 : vk.ownBlock ≠ some p
  n2 : vn.ownBlock ≠ some p
  n3 : vo.ownBlock ≠ some p
/-- A disk of the document: M: what its calls may change; B: what they read besides. -/
structure Dx (C : Nat) (w : World) (p : Nat) (d : PD) (M B : Nat → Prop) : Prop where
  co : ∃ vk vo vn, Dc w p vk vo vn d.room d.seen d.synced d.ops ∧ M p ∧ (∀ k, vo.ownBlock = some k → M k) ∧ (∀ k, vk.ownBlock = some k → B k) ∧ (∀ k, vn.ownBlock = some k → B k)
  seen : d.seen = d.ops.foldl run5 d.synced
  val : Val C d.synced d.ops
  dis : ∀ i, M i → B i → False
  ltM : ∀ i, M i → i < w.heap.size
  ltB : ∀ i, B i → i < w.heap.size
  room : d.room < 9223372036854775808
def Afx (C : Nat) (w : World) (p : Nat) (M B : Nat → Prop) (d' : PD) (w' : World) : Prop := ∃ M' B', Dx C w' p d' M' B' ∧ (∀ i, M' i → M i ∨ w.heap.size ≤ i) ∧ (∀ i, B' i → B i ∨ w.heap.size ≤ i) ∧ Ch M w w'
theorem Dc.at {w w' : World} {p : Nat} {vk vo vn : Value} {room : Int} {seen synced : Fs} {ops : List Op5} (h : Dc w p vk vo vn room seen synced ops) (hb : ∀ i, (i = p ∨ vk.ownBlock = some i ∨ vo.ownBlock = some i ∨ vn.ownBlock = some i) → w'.heap[i]? = w.heap[i]?) : Dc w' p vk vo vn room seen synced ops :=
  ⟨(hb p (Or.inl rfl)).trans h.row, row_at h.kept (fun k hk => hb k (Or.inr (Or.inl hk))), row_at h.now (fun k hk => hb k (Or.inr (Or.inr (Or.inr hk)))), row_at h.ops (fun k hk => hb k (Or.inr (Or.inr (Or.inl hk)))), h.n1, h.n2, h.n3⟩
theorem Dx.at {C : Nat} {w w' : World} {p : Nat} {d : PD} {M B : Nat → Prop} (h : Dx C w p d M B) (hs : w.heap.size ≤ w'.heap.size) (hb : ∀ i, M i ∨ B i → w'.heap[i]? = w.heap[i]?) : Dx C w' p d M B := by
  obtain ⟨vk, vo, vn, h1, h2, h3, h4, h5⟩ := h.co
  refine ⟨⟨vk, vo, vn, h1.at (fun i hi => hb i ?_), h2, h3, h4, h5⟩, h.seen, h.val, h.dis, fun i hi => Nat.lt_of_lt_of_le (h.ltM i hi) hs, fun i hi => Nat.lt_of_lt_of_le (h.ltB i hi) hs, h.room⟩
  rcases hi with rfl | hi | hi | hi
  · exact Or.inl h2
  · exact Or.inr (h4 i hi)
  · exact Or.inl (h3 i hi)
  · exact Or.inr (h5 i hi)
theorem Dx.bel {C : Nat} {w w' : World} {p : Nat} {d : PD} {M B : Nat → Prop} (h : Dx C w p d M B) (c : Bel w w') : Dx C w' p d M B := h.at c.size (fun i hi => c.block i (hi.elim (h.ltM i) (h.ltB i)))
theorem Dx.aft {C : Nat} {w w' : World} {p : Nat} {d : PD} {M B : Nat → Prop} (h : Dx C w p d M B) (c : Bel w w') : Afx C w p M B d w' := ⟨M, B, h.bel c, fun _ hi => Or.inl hi, fun _ hi => Or.inl hi, c.ch M⟩
theorem Dx.fine {C : Nat} {w : World} {p : Nat} {d : PD} {M B : Nat → Prop} (h : Dx C w p d M B) : Fine C d.seen := by
  have := h.val.last
  rw [← h.seen] at this
  exact this
theorem Dx.mono {C C' : Nat} {w : World} {p : Nat} {d : PD} {M B : Nat → Prop} (h : Dx C w p d M B) (hc : C ≤ C') : Dx C' w p d M B := ⟨h.co, h.seen, h.val.mono hc, h.dis, h.ltM, h.ltB, h.room⟩
set_option maxRecDepth 100000 in
theorem dnew_any (room : Int) (hr : room < 9223372036854775808) (C : Nat) (w : World) :
    Calls Try.prog 8 #[.int .i64 room] w fun e w' => ∃ p, e = .returned (.pointer (some ⟨p, 0, none⟩)) ∧ Dx C w' p (PD.new room) (fun i => w.heap.size ≤ i ∧ i < w'.heap.size) (fun _ => False) ∧ Bel w w' := by
  have key : ∀ (q : Nat) (r : Int), r = (q : Int) → q < 9223372036854775808 → Dx C (w.alloc (.cells #[.int .i64 r, .slice none 0 0, .slice none 0 0, .slice none 0 0] 34)) w.heap.size ⟨q, [], [], []⟩ (fun i => w.heap.size ≤ i ∧ i < (w.alloc (.cells #[.int .i64 r, .slice none 0 0, .slice none 0 0, .slice none 0 0] 34)).heap.size) (fun _ => False) := by
    intro q r hq hlt
    subst hq
    exact ⟨⟨_, _, _, ⟨at_new w _, World.ownsRow_nil _ _ _ _, World.ownsRow_nil _ _ _ _, World.ownsRow_nil _ _ _ _, by simp [Value.ownBlock], by simp [Value.ownBlock], by simp [Value.ownBlock]⟩, ⟨Nat.le_refl _, by simp⟩, (fun k hk => by cases hk), (fun k hk => by cases hk), (fun k hk => by cases hk)⟩, rfl, fine_nil C, fun _ _ h => h, fun i hi => hi.2, fun _ h => h.elim, hlt⟩
  have KEY := hide key
  clear key
  by_cases h0 : room < 0
  · go_enter Try.func8, Try.ntmps8
    go_wp2_with fail
    go_ret
    have e : PD.new room = ⟨0, [], [], []⟩ := by unfold PD.new; rw [show room.toNat = 0 by omega]
    rw [e]
    exact ⟨_, rfl, KEY.out 0 0 rfl (by decide), (Bel.refl w).alloc _⟩
  · go_enter Try.func8, Try.ntmps8
    go_wp2_with fail
    go_ret
    exact ⟨_, rfl, KEY.out room.toNat room (by omega) (by omega), (Bel.refl w).alloc _⟩
theorem tot_take (l : Fs) (k : Nat) : tot (l.take k) ≤ tot l := by
  induction l generalizing k with
  | nil => simp [tot]
  | cons y r ih =>
    cases k with
    | zero => simp [tot]
    | succ k => rw [List.take_succ_cons, tot, tot]; have := ih k; omega
theorem tot_next {l : Fs} {k : Nat} (h : k < l.length) : tot (l.take (k + 1)) = tot (l.take k) + l[k].2.length := by
  induction l generalizing k with
  | nil => simp at h
  | cons y r ih =>
    cases k with
    | zero => simp [tot]
    | succ k =>
      rw [List.take_succ_cons, List.take_succ_cons, tot, tot, ih (by simpa using h)]
      simp
      omega
set_option maxRecDepth 100000 in
set_option maxHeartbeats 1000000 in
theorem dused_any {C : Nat} {w : World} {p : Nat} {d : PD} {M B : Nat → Prop} (h : Dx C w p d M B) (hC : C ≤ 1099511627776) :
    Calls Try.prog 11 #[.pointer (some ⟨p, 0, none⟩)] w fun e w' => e = .returned (.int .i64 (tot d.seen)) ∧ w' = w := by
  have hF := h.fine
  have hlen : d.seen.length ≤ 4096 := hF.len
  have htot : tot d.seen ≤ 1099511627776 := Nat.le_trans hF.tot hC
  obtain ⟨vk, vo, vn, h1, _⟩ := h.co
  obtain ⟨a, cap, g, hv, hc, ha, hcl⟩ := h1.now.shape
  have c3 : w.cell? ⟨p, 3, none⟩ = some (.slice a d.seen.length cap) := by rw [← hv]; exact cell_of h1.row
  have HA := hide ha
  have HC := hide hcl
  clear h h1 hv ha hcl hF
  generalize d.seen = l at *
  go_enter Try.func11, Try.ntmps11
  go_wp2_with fail
  go_loopw [3, 4] (fun vs vi wr => ∃ k : Nat, k ≤ l.length ∧ vi = .int .i64 k ∧ vs = .int .i64 (tot (l.take k)) ∧ Hid (wr = w)) (fun _ vi _ => l.length - (intOf vi).toNat)
  case atStart => exact ⟨0, Nat.zero_le _, rfl, rfl, hide rfl⟩
  case round =>
    obtain ⟨k, hk, rfl, rfl, HO⟩ := hrel
    obtain rfl := HO.out
    by_cases hlt : k < l.length
    · obtain rfl := HA.out (by omega)
      have hcx := (HC.out k hlt).2
      have hnx := tot_next hlt
      have htk := tot_take l (k + 1)
      generalize l[k].2 = x at hcx hnx
      have hwr : wrap64 ((tot (l.take k) : Int) + (x.length : Int)) = ((tot (l.take (k + 1)) : Nat) : Int) := by unfold wrap64; omega
      have HN := hide hnx
      clear hnx htk
      go_wp2_with fail
      go_roundw
      case rel => exact ⟨k + 1, by omega, by go_num, by rw [hwr], trivial⟩
      case measure => simp [intOf]; omega
    · obtain rfl : k = l.length := by omega
      go_wp2_with fail
      go_ret
      exact ⟨rfl, rfl⟩
set_option maxRecDepth 100000 in
theorem may_any (n : List UInt8) (w : World) : Calls Try.prog 49 #[.string ⟨n.toArray⟩] w fun e w' => e = .returned (.bool (!badN n)) ∧ w' = w := by
  cases hb : badN n
  · have h := okN_of hb
    have h1 : (1 : Int) ≤ (n.length : Int) := by have : n.length ≠ 0 := fun e => h.1 (List.length_eq_zero_iff.1 e); omega
    have h2 : (n.length : Int) ≤ 128 := by have := h.2; omega
    clear h hb
    go_enter Try.func49, Try.ntmps49
    go_wp2_with fail
    go_ret
    exact ⟨rfl, rfl⟩
  · have h := of_decide_eq_true hb
    clear hb
    by_cases h0 : n = []
    · subst h0
      clear h
      go_enter Try.func49, Try.ntmps49
      go_wp2_with fail
      go_ret
      exact ⟨rfl, rfl⟩
    · have h2 : ¬ (n.length : Int) ≤ 128 := by rcases h with h | h; exact absurd h h0; omega
      have h1 : (1 : Int) ≤ (n.length : Int) := by have : n.length ≠ 0 := fun e => h0 (List.length_eq_zero_iff.1 e); omega
      clear h h0
      go_enter Try.func49, Try.ntmps49
      go_wp2_with fail
      go_ret
      exact ⟨rfl, rfl⟩
set_option maxRecDepth 100000 in
set_option maxHeartbeats 1000000 in
theorem dread_any {C : Nat} {w : World} {p : Nat} {d : PD} {M B : Nat → Prop} (h : Dx C w p d M B) (n : List UInt8) :
    Calls Try.prog 31 #[.pointer (some ⟨p, 0, none⟩), .string ⟨n.toArray⟩] w fun e w' => e = .returned (.tuple #[.string ⟨(d.rd n).1.toArray⟩, .int .i64 ((d.rd n).2 : Nat)]) ∧ w' = w := by
  have hlen : d.seen.length ≤ 1000000 := by have := h.fine.len; omega
  obtain ⟨vk, vo, vn, h1, _⟩ := h.co
  have h49 := hide (may_any n w)
  have h50 := hide (dfind_any d.seen vn n w h1.now hlen)
  have h51 := hide (dbytes_any d.seen vn n w h1.now hlen)
  have c3 : w.cell? ⟨p, 3, none⟩ = some vn := cell_of h1.row
  clear h h1
  obtain ⟨r, hr⟩ : ∃ r, d.rd n = r := ⟨_, rfl⟩
  rw [hr]
  have HR := hide hr
  clear hr
  obtain ⟨r1, r2⟩ := r
  cases hb : badN n
  · rw [hb] at h49
    have HB := hide hb
    clear hb
    go_enter Try.func31, Try.ntmps31
    go_wp2_with (first | (go_at_call 49; refine (unhide h49).mono ?_; rintro e w1 ⟨rfl, hw1⟩; subst hw1))
    refine (unhide h50).mono ?_
    rintro e w2 ⟨⟨i, rfl, hi⟩, hw2⟩
    subst hw2
    rcases hi with ⟨rfl, hno⟩ | ⟨k, rfl, hk, hh, hx1, hx2⟩
    · have HN := hide hno
      clear hno
      go_wp2_with fail
      go_ret2
      have e := unhide HR
      unfold PD.rd at e
      rw [unhide HB, if_neg (by simp), unhide HN, if_neg (by simp)] at e
      cases e
      exact ⟨rfl, rfl⟩
    · have HH := hide hh
      clear hh hx1 hx2
      go_wp2_with (first | (go_at_call 51; refine (unhide h51).mono ?_; rintro e w1 ⟨rfl, hw1⟩; subst hw1))
      go_ret2
      have e := unhide HR
      unfold PD.rd at e
      rw [unhide HB, if_neg (by simp), unhide HH, if_pos rfl] at e
      cases e
      exact ⟨rfl, rfl⟩
  · rw [hb] at h49
    have HB := hide hb
    clear hb
    go_enter Try.func31, Try.ntmps31
    go_wp2_with (first | (go_at_call 49; refine (unhide h49).mono ?_; rintro e w1 ⟨rfl, hw1⟩; subst hw1))
    go_ret2
    have e := unhide HR
    unfold PD.rd at e
    rw [unhide HB, if_pos rfl] at e
    cases e
    exact ⟨rfl, rfl⟩
end Go.Proofs.Ytpngcmlaimcceaa
