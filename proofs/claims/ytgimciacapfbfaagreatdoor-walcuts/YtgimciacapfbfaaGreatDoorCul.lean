/- The wal, the texts that went into it, and a crash: what the law's loop keeps. -/
import Derived.Test.YtgimciacapfbfaaGreatDoorLyo
import Derived.Test.YtgimciacapfbfaaGreatDoorCln
import Derived.Test.YtgimciacapfbfaaGreatDoorSam
import Derived.Test.YtgimciacapfbfaaGreatDoorCle
import Derived.Test.YtgimciacapfbfaaGreatDoorOpw
namespace Go.Proofs.YtgimciacapfbfaaGreatDoor
open Go.RowKit Go.Maps Go.WideMaps
/-- What is not the wal's: what was there, and the row of texts. -/
abbrev Gi (w : World) (v : Value) (i : Nat) : Prop := i < w.heap.size ∨ v.ownBlock = some i
/-- The wal has rs, s of them synced; the row v has ins. -/
structure Lp (w W : World) (q p : Nat) (v : Value) (s : Nat) (ins rs : List (List UInt8)) (x : PW) (d : PD) : Prop where
  wa : Wa w (1000 + rs.length * 1048584) (Gi w v) W q p x d
  inv : Inv rs.length x d
  his : His s rs d
  nm : x.nm = wn
  fi : x.first = 1
  mp : x.rs.map (·.1) = rs
  own : W.ownsRow w.heap.size 9 1 v ins.length (ins.map vS)
  room : d.room = 16777216
  le : rs.length ≤ 100
  sml : ∀ b ∈ rs, b.length ≤ 300
theorem Lp.xl {w W : World} {q p : Nat} {v : Value} {s : Nat} {ins rs : List (List UInt8)} {x : PW} {d : PD} (h : Lp w W q p v s ins rs x d) : x.rs.length = rs.length := by
  have := congrArg List.length h.mp; rwa [List.length_map] at this
theorem kp_row {w W W' : World} {v : Value} {n : Nat} {xs : List Value} {G : Nat → Prop} (h : W.ownsRow w.heap.size 9 1 v n xs) (k : Kp G W W') (hg : ∀ i, v.ownBlock = some i → G i) : W'.ownsRow w.heap.size 9 1 v n xs := row_at h (fun i hi => k.block i (hg i hi))
theorem lp_new {w W : World} {q p : Nat} (h : Wa w 1000 (fun i => i < w.heap.size) W q p ⟨wn, 1, 0, []⟩ (PD.new 16777216)) : Lp w W q p (.slice none 0 0) 0 [] [] ⟨wn, 1, 0, []⟩ (PD.new 16777216) := by
  refine ⟨(h.less (G' := Gi w (.slice none 0 0)) (fun i hi => ?_) (fun i hi => Or.inl hi)).mono (by simp), inv_new wn 16777216 (by simp) (by decide), ⟨Nat.le_refl _, ⟨false, lay_nil⟩, rfl, fun j hj => absurd hj (by simp [PD.new])⟩, rfl, rfl, rfl, World.ownsRow_nil _ _ _ _, rfl, by simp, by simp⟩
  rcases hi with hi | hi
  · exact hi
  · cases hi
/-- One text is added. -/
theorem lp_append {w W : World} {q p : Nat} {v : Value} {s : Nat} {ins rs : List (List UInt8)} {x : PW} {d : PD} (h : Lp w W q p v s ins rs x d) (hg : Gl w) (b : List UInt8) (hb : b.length ≤ 300) (hl : rs.length < 100) :
    Calls Tryz.prog 8 #[.pointer (some ⟨q, 0, none⟩), .slice (some ⟨W.heap.size, 0, none⟩) 1 1] (W.alloc (.cells #[.string ⟨b.toArray⟩] 9)) fun e w' => e = .returned (.tuple #[.int .i64 1, .int .i64 0]) ∧ ∃ x' d', Lp w w' q p v s ins (rs ++ [b]) x' d' := by
  have hxl := h.xl
  have hba := (Bel.refl W).alloc (.cells #[.string ⟨b.toArray⟩] 9)
  have hsz : W.heap.size < (W.alloc (.cells #[.string ⟨b.toArray⟩] 9)).heap.size := by simp
  have hat := at_new W (.cells #[.string ⟨b.toArray⟩] 9)
  obtain ⟨k1, k2, k3⟩ := inv_can h.inv (by omega) hb (by rw [h.room]; omega)
  refine (wapp_any (h.wa.more hba) hg h.inv.nm1 [b] 1 1 W.heap.size 0 _ rfl (by decide) (fun _ => rfl) (fun _ => Or.inr ⟨Nat.le_refl _, hsz⟩) (fun j hj => ?_) (fun t ht => by rw [List.mem_singleton.1 ht]; omega) (by omega) (fun j hj => ?_)).mono ?_
  · obtain rfl : j = 0 := by simp at hj; omega
    exact cell_of hat
  · obtain rfl : j = 0 := by simp at hj; omega
    exact k1
  rintro e w' ⟨he, hwa, hkp⟩
  refine ⟨he, (stp (x, d) b).1, (stp (x, d) b).2, ?_⟩
  have hwa' : Wa w (1000 + rs.length * 1048584 + 1 * 1048584) (Gi w v) w' q p (stp (x, d) b).1 (stp (x, d) b).2 := hwa.less (fun i hi => Or.inl hi) (fun i hi => Or.inl hi)
  have hll : (rs ++ [b]).length = rs.length + 1 := by simp
  have e2 : (stp (x, d) b).2 = ⟨d.room, run5 d.seen (.app (pth wn (1 + 32 * (rs.length / 32))) (frm b)), d.synced, d.ops ++ [.app (pth wn (1 + 32 * (rs.length / 32))) (frm b)]⟩ := by
    have hfl := frm_len b
    have htot := h.inv.tot
    have hlen := h.inv.len
    have hok := app_ok (d := d) (n := pth x.nm (x.file x.next)) (t := frm b) (pth_ok h.inv.nm2 _) (by rw [h.room]; omega) (by omega)
    have ef : x.file x.next = 1 + 32 * (rs.length / 32) := by
      have := file_at x x.rs.length
      rw [h.fi, hxl] at this
      unfold PW.next
      rw [h.fi, hxl]; exact this
    show (d.app _ _).2 = _
    rw [hok, ef, h.nm]
  refine ⟨hwa'.mono (by omega), by rw [hll]; exact k2, by rw [e2]; exact his_push h.his b, h.nm, h.fi, ?_, ?_, k3.trans h.room, by omega, fun t ht => ?_⟩
  · show (x.rs ++ [_]).map _ = _
    rw [List.map_append, h.mp]; rfl
  · exact row_at (row_at h.own (fun k hk => hba.block k (h.own.lt k hk).2)) (fun k hk => hkp.block k (Or.inl (Or.inr hk)))
  · rcases List.mem_append.1 ht with h' | h'
    · exact h.sml t h'
    · rw [List.mem_singleton.1 h']; exact hb
/-- The text goes into the row. -/
theorem lp_in {w W w2 : World} {q p : Nat} {v v' : Value} {s : Nat} {ins rs : List (List UInt8)} {x : PW} {d : PD} (h : Lp w W q p v s ins rs x d) (b : List UInt8) (o : Obj) (hgrow : (W.alloc o).grownBy w2 v.ownBlock) (hown : w2.ownsRow w.heap.size 9 1 v' (ins.length + 1) (ins.map vS ++ [.string ⟨b.toArray⟩])) (hat : v'.ownBlock = v.ownBlock ∨ v'.ownBlock = some (W.alloc o).heap.size) :
    Lp w w2 q p v' s (ins ++ [b]) rs x d := by
  have hc : Ch (fun i => v.ownBlock = some i) W w2 := ((Bel.refl W).alloc o).ch _ |>.grown hgrow (fun i hi => Or.inl hi)
  have hb : Bel w w2 := by
    refine Kp.bel (G := fun i => i < w.heap.size) (hc.kp (fun i hi => ?_) (fun i hi hg => ?_)) h.wa.bel (fun i hi => hi)
    · exact Nat.lt_of_lt_of_le hi h.wa.bel.size
    · have := (h.own.lt i hi).1; omega
  have hs1 : (W.alloc o).heap.size = W.heap.size + 1 := by simp
  refine ⟨h.wa.outer hc (fun i hi => Or.inr hi) hb (fun i hi => ?_) (fun i hi => Or.inl hi), h.inv, h.his, h.nm, h.fi, h.mp, ?_, h.room, h.le, h.sml⟩
  · rcases hi with hi | hi
    · exact Or.inl (Or.inl hi)
    · rcases hat with h' | h'
      · exact Or.inl (Or.inr (by rw [← h']; exact hi))
      · have hl := (hown.lt i hi).2
        rw [h'] at hi
        cases hi
        exact Or.inr ⟨by omega, hl⟩
  · rw [List.length_append, List.map_append]; exact hown
theorem Wa.fold {w0 W : World} {C : Nat} {G : Nat → Prop} {q p : Nat} {x : PW} {d : PD} (h : Wa w0 C G W q p x d) : d.seen = d.ops.foldl run5 d.synced := by
  obtain ⟨_, _, _, _, k, _⟩ := h.ex
  exact k.seen
/-- It is synced. -/
theorem lp_sync {w W : World} {q p : Nat} {v : Value} {s : Nat} {ins rs : List (List UInt8)} {x : PW} {d : PD} (h : Lp w W q p v s ins rs x d) :
    Calls Tryz.prog 9 #[.pointer (some ⟨q, 0, none⟩)] W fun e w' => e = .returned (.int .i64 0) ∧ Lp w w' q p v rs.length ins rs x d.sync := by
  have hl := h.le
  refine (wsync_any h.wa h.inv.nm1 (by have := h.inv.ops; omega)).mono ?_
  rintro e w' ⟨he, hwa, hkp⟩
  exact ⟨he, hwa, ⟨h.inv.nm1, h.inv.nm2, h.inv.srt, h.inv.tot, h.inv.len, Nat.zero_le _, h.inv.fi, h.inv.rl, h.inv.lst, h.inv.pos, h.inv.fil⟩, his_sync h.his (by omega) h.wa.fold, h.nm, h.fi, h.mp, kp_row h.own hkp (fun i hi => Or.inr hi), h.room, h.le, h.sml⟩
/-- How many are loose. -/
theorem lp_loose {w W : World} {q p : Nat} {v : Value} {s : Nat} {ins rs : List (List UInt8)} {x : PW} {d : PD} (h : Lp w W q p v s ins rs x d) :
    Calls Tryz.prog 11 #[.pointer (some ⟨p, 0, none⟩)] W fun e w' => e = .returned (.int .i64 (d.ops.length : Nat)) ∧ w' = W := by
  obtain ⟨_, _, _, _, k, _⟩ := h.wa.ex
  exact loose_any k
/-- Behind the crash. -/
structure Lq (w W : World) (p : Nat) (v : Value) (ins : List (List UInt8)) (r : Nat) (t : List UInt8) (ex : Bool) (d : PD) : Prop where
  da : Da w 200000000 (Gi w v) W p d
  lay : Lay (ins.take r) t ex d.seen
  ops : d.ops = []
  own : W.ownsRow w.heap.size 9 1 v ins.length (ins.map vS)
  le : ins.length ≤ 100
  sml : ∀ b ∈ ins, b.length ≤ 300
  tt : t = [] ∨ (ex = true ∧ ∃ b m, b.length ≤ 300 ∧ 0 < m ∧ m < (frm b).length ∧ t = (frm b).take m)
theorem lp_crash {w W : World} {q p : Nat} {v : Value} {s : Nat} {rs : List (List UInt8)} {x : PW} {d : PD} (h : Lp w W q p v s rs rs x d) (K T : Nat) (hK : K ≤ d.ops.length) (hT : T ≤ 65535) :
    Calls Tryz.prog 10 #[.pointer (some ⟨p, 0, none⟩), .int .i64 K, .int .i64 T] W fun e w' => e = .returned (.int .i64 0) ∧ ∃ r t ex d', s ≤ r ∧ r ≤ rs.length ∧ Lq w w' p v rs r t ex d' := by
  have hl := h.le
  have ho := h.inv.ops
  have hops : ∀ o ∈ d.ops, (txt5 o).length ≤ 200000000 := fun o ho' => by
    obtain ⟨j, hj, rfl⟩ := List.getElem_of_mem ho'
    rw [h.his.ops j hj]
    show (frm _).length ≤ _
    rw [frm_len]
    have : (rs[s + j]?.getD []).length ≤ 300 := by
      rcases Nat.lt_or_ge (s + j) rs.length with h' | h'
      · rw [List.getElem?_eq_getElem h']; exact h.sml _ (List.getElem_mem h')
      · rw [List.getElem?_eq_none h']; simp
    omega
  have e0 : d.crash K T = (0, ⟨d.room, d.left K T, d.left K T, []⟩) := by
    unfold PD.crash
    rw [if_neg (by omega)]; rfl
  refine ((h.wa.mono (C' := 200000000) (by omega)).da.call (fun M B hd => crash_any hd K T (by omega) (by omega) hops (by omega) (by omega))).mono ?_
  rw [e0]
  rintro e w' ⟨he, hda, hkp⟩
  refine ⟨he, ?_⟩
  obtain ⟨r, t, ex, h1, h2, h3, h4⟩ := his_crash h.his (by omega) K T hK
  exact ⟨r, t, ex, _, h1, h2, hda, h3, rfl, kp_row h.own hkp (fun i hi => Or.inr hi), hl, h.sml, h4.elim Or.inl (fun ⟨a1, b, m, a2, a3⟩ => Or.inr ⟨a1, b, m, h.sml b a2, a3⟩)⟩
/-- Opened again. -/
structure Lr (w W : World) (q p : Nat) (v : Value) (ins : List (List UInt8)) (r : Nat) (ex : Bool) (x : PW) (d : PD) : Prop where
  wa : Wa w 200000000 (Gi w v) W q p x d
  lay : Lay (ins.take r) [] ex d.seen
  ops : d.ops = []
  own : W.ownsRow w.heap.size 9 1 v ins.length (ins.map vS)
  le : ins.length ≤ 100
  sml : ∀ b ∈ ins, b.length ≤ 300
  nm : x.nm = wn
  fi : x.first = 1
  mp : x.rs.map (·.1) = ins.take r
  xl : x.rs.length = r
theorem Lr.up {w W W' : World} {q p : Nat} {v : Value} {ins : List (List UInt8)} {r : Nat} {ex : Bool} {x : PW} {d : PD} (h : Lr w W q p v ins r ex x d) (hb : Bel W W') : Lr w W' q p v ins r ex x d :=
  ⟨h.wa.up hb, h.lay, h.ops, row_at h.own (fun k hk => hb.block k (h.own.lt k hk).2), h.le, h.sml, h.nm, h.fi, h.mp, h.xl⟩
theorem Lr.is {w W : World} {q p : Nat} {v : Value} {ins : List (List UInt8)} {r : Nat} {ex : Bool} {x : PW} {d : PD} (h : Lr w W q p v ins r ex x d) (hr : r ≤ 100) : Is x := ⟨by rw [h.nm]; simp, by rw [h.fi]; omega, by rw [h.xl]; omega⟩
theorem lq_open {w W : World} {p : Nat} {v : Value} {ins : List (List UInt8)} {r : Nat} {t : List UInt8} {ex : Bool} {d : PD} (h : Lq w W p v ins r t ex d) (hg : Gl w) (hr : r ≤ ins.length) :
    Calls Tryz.prog 7 #[.pointer (some ⟨p, 0, none⟩), .string ⟨#[119]⟩] W fun e w' => ∃ q, e = .returned (.tuple #[.pointer (some ⟨q, 0, none⟩), .int .i64 0]) ∧ ∃ x d' ex', Lr w w' q p v ins r ex' x d' := by
  have hl := h.le
  have htl : (ins.take r).length = r := by rw [List.length_take]; omega
  refine (open_lay h.da hg h.lay (by omega) (fun b hb => h.sml b (List.mem_of_mem_take hb)) h.tt (by rw [h.ops]; simp) (by omega)).mono ?_
  rintro e w' ⟨q, x, d', ex', he, hwa, hkp, h1, h2, h3, h4, h5, _⟩
  refine ⟨q, he, x, d', ex', hwa, h4, ?_, kp_row h.own hkp (fun i hi => Or.inr hi), hl, h.sml, h1, h2, h3, ?_⟩
  · rw [h.ops] at h5
    exact List.length_eq_zero_iff.1 (Nat.le_zero.1 h5)
  · have := congrArg List.length h3; rwa [List.length_map, htl] at this
theorem Lr.first {w W : World} {q p : Nat} {v : Value} {ins : List (List UInt8)} {r : Nat} {ex : Bool} {x : PW} {d : PD} (h : Lr w W q p v ins r ex x d) (hr : r ≤ 100) : Calls Tryz.prog 12 #[.pointer (some ⟨q, 0, none⟩)] W fun e w' => e = .returned (.int .i64 1) ∧ w' = W := by
  have := first_any h.wa (h.is hr)
  rw [h.fi] at this
  exact this
theorem Lr.next {w W : World} {q p : Nat} {v : Value} {ins : List (List UInt8)} {r : Nat} {ex : Bool} {x : PW} {d : PD} (h : Lr w W q p v ins r ex x d) (hr : r ≤ 100) : Calls Tryz.prog 13 #[.pointer (some ⟨q, 0, none⟩)] W fun e w' => e = .returned (.int .i64 ((1 + r : Nat) : Int)) ∧ Bel W w' := by
  have := next_any h.wa (h.is hr)
  rw [h.fi, h.xl] at this
  exact this
theorem Lr.at {w W : World} {q p : Nat} {v : Value} {ins : List (List UInt8)} {r : Nat} {ex : Bool} {x : PW} {d : PD} (h : Lr w W q p v ins r ex x d) (hr : r ≤ 100) (hri : r ≤ ins.length) (j : Nat) (hj : j < r) : Calls Tryz.prog 14 #[.pointer (some ⟨q, 0, none⟩), .int .i64 ((1 + j : Nat) : Int)] W fun e w' => e = .returned (.tuple #[.string ⟨(ins[j]'(by omega)).toArray⟩, .int .i64 0]) ∧ Bel W w' := by
  have hx := h.xl
  have hf := h.fi
  have := at_any h.wa (h.is hr) (1 + j) (by omega) (by omega)
  have e : (x.rs[1 + j - x.first]'(by omega)).1 = ins[j]'(by omega) := by
    have e : (x.rs.map (·.1))[j]? = (ins.take r)[j]? := by rw [h.mp]
    rw [List.getElem?_map, List.getElem?_eq_getElem (show j < x.rs.length by omega), List.getElem?_take, if_pos hj, List.getElem?_eq_getElem (show j < ins.length by omega)] at e
    have e' := Option.some.inj e
    rw [← e']
    congr 1
    congr 1
    omega
  rw [e] at this
  exact this
theorem dk_none {C : Nat} {w : World} {p : Nat} {d : PD} {M B : Nat → Prop} (h : Dk C w p d M B) (ho : d.ops = []) : Dk C w p d M (fun _ => False) := by
  obtain ⟨bs, bk, v, cs, h1, h2, h3⟩ := h.co
  exact ⟨⟨bs, bk, v, cs, h1, by rw [ho] at h2 ⊢; exact h2, h3⟩, h.seen, h.val, fun _ _ f => f, h.ltM, fun _ f => f.elim, h.room⟩
/-- The wal, its disk, and the disk's copy. -/
structure Ls (w W : World) (q p pc : Nat) (v : Value) (ins : List (List UInt8)) (r : Nat) (ex : Bool) (x : PW) (d : PD) : Prop where
  lr : Lr w W q p v ins r ex x d
  two : ∃ (G' : Nat → Prop) (vx : Value) (M : Nat → Prop), Da w 200000000 G' W p d ∧ Dk 200000000 W pc d M (fun _ => False) ∧ (∀ i, M i → G' i) ∧ Wc W q p vx x ∧ G' q ∧ (∀ k, vx.ownBlock = some k → G' k) ∧ ¬ q < w.heap.size ∧ (∀ k, vx.ownBlock = some k → ¬ k < w.heap.size ∧ k ≠ q)
theorem lr_copy {w W : World} {q p : Nat} {v : Value} {ins : List (List UInt8)} {r : Nat} {ex : Bool} {x : PW} {d : PD} (h : Lr w W q p v ins r ex x d) :
    Calls Tryz.prog 15 #[.pointer (some ⟨p, 0, none⟩)] W fun e w' => ∃ pc, e = .returned (.pointer (some ⟨pc, 0, none⟩)) ∧ Ls w w' q p pc v ins r ex x d := by
  obtain ⟨vx, M, B, k1, k2, k3⟩ := h.wa.ex
  have k2' := dk_none k2 h.ops
  refine (copyp_any k2' (by rw [h.ops]; simp)).mono ?_
  rintro e w' ⟨pc, he, hdk, hb⟩
  have hql : q < W.heap.size := lt_of_some k1.row
  refine ⟨pc, he, h.up hb, fun i => i < w.heap.size ∨ i = q ∨ vx.ownBlock = some i ∨ (W.heap.size ≤ i ∧ i < w'.heap.size), vx, _, ⟨⟨M, fun _ => False, k2'.bel hb, fun i hi hg => ?_, fun i f => f.elim⟩, fun i hi => ?_, fun i hi => Or.inl hi, h.wa.bel.trans hb⟩, hdk, fun i hi => Or.inr (Or.inr (Or.inr hi)), ⟨hb.row k1.row, row_at k1.own (fun k hk => hb.block k (k1.own.lt k hk).2)⟩, Or.inr (Or.inl rfl), fun k hk => Or.inr (Or.inr (Or.inl hk)), fun hq => k3.aq.1 (Or.inl hq), fun k hk => ⟨fun hq => (k3.av k hk).1 (Or.inl hq), (k3.av k hk).2.2.2⟩⟩
  · rcases hg with hg | rfl | hg | hg
    · exact k3.mg i hi (Or.inl hg)
    · exact k3.aq.2.1 hi
    · exact (k3.av i hg).2.1 hi
    · have := k2.ltM i hi; omega
  · have := hb.size
    rcases hi with hg | rfl | hg | hg
    · have := h.wa.bel.size; omega
    · omega
    · have := (k1.own.lt i hg).2; omega
    · exact hg.2
/-- Two wals of one disk, and the disk's copy. -/
structure Lt (w W : World) (q q2 p pc r : Nat) (x x2 : PW) (d : PD) : Prop where
  a : Wa w 200000000 (fun i => i < w.heap.size) W q p x d
  b : ∃ G, Wa w 200000000 G W q2 p x2 d
  c : ∃ M B, Dk 200000000 W pc d M B
  ia : Is x
  ib : Is x2
  na : x.first + x.rs.length = 1 + r
  nb : x2.first + x2.rs.length = 1 + r
theorem ls_open {w W : World} {q p pc : Nat} {v : Value} {ins : List (List UInt8)} {r : Nat} {ex : Bool} {x : PW} {d : PD} (h : Ls w W q p pc v ins r ex x d) (hg : Gl w) (hr : r ≤ ins.length) :
    Calls Tryz.prog 7 #[.pointer (some ⟨p, 0, none⟩), .string ⟨#[119]⟩] W fun e w' => ∃ q2, e = .returned (.tuple #[.pointer (some ⟨q2, 0, none⟩), .int .i64 0]) ∧ ∃ x2, Lt w w' q q2 p pc r x x2 d := by
  have hl := h.lr.le
  have hxl := h.lr.xl
  have hfi := h.lr.fi
  have htl : (ins.take r).length = r := by rw [List.length_take]; omega
  obtain ⟨G', vx, M, k1, k2, k3, k4, k5, k6, k7, k8⟩ := h.two
  refine (open_lay k1 hg h.lr.lay (by omega) (fun b hb => h.lr.sml b (List.mem_of_mem_take hb)) (Or.inl rfl) (by rw [h.lr.ops]; simp) (by omega)).mono ?_
  rintro e w' ⟨q2, x2, d', ex', he, hwa, hkp, h1, h2, h3, h4, h5, h6⟩
  obtain rfl := h6 rfl
  have hx2 : x2.rs.length = r := by have := congrArg List.length h3; rwa [List.length_map, htl] at this
  obtain ⟨v2, M2, B2, j1, j2, j3⟩ := hwa.ex
  refine ⟨q2, he, x2, ⟨⟨vx, M2, B2, ⟨hkp.row k5 k4.row, row_at k4.own (fun k hk => hkp.block k (k6 k hk))⟩, j2, fun i hi hw => j3.mg i hi (hwa.g0 i hw), fun i hi hw => j3.bg i hi (hwa.g0 i hw), ⟨k7, fun hm => j3.mg q hm k5, fun hm => j3.bg q hm k5⟩, fun k hk => ⟨(k8 k hk).1, fun hm => j3.mg k hm (k6 k hk), fun hm => j3.bg k hm (k6 k hk), (k8 k hk).2⟩⟩, fun i hi => hwa.lt i (hwa.g0 i hi), fun i hi => hi, hwa.bel⟩, ⟨G', hwa⟩, ⟨M, fun _ => False, k2.at hkp.size (fun i hi => ?_)⟩, h.lr.is (by omega), ⟨by rw [h1]; simp, by omega, by omega⟩, by omega, by omega⟩
  rcases hi with hi | hi
  · exact hkp.block i (k3 i hi)
  · exact hi.elim
theorem Lt.up {w W W' : World} {q q2 p pc r : Nat} {x x2 : PW} {d : PD} (h : Lt w W q q2 p pc r x x2 d) (hb : Bel W W') : Lt w W' q q2 p pc r x x2 d := by
  obtain ⟨G, hG⟩ := h.b
  obtain ⟨M, B, hM⟩ := h.c
  exact ⟨h.a.up hb, ⟨G, hG.up hb⟩, ⟨M, B, hM.bel hb⟩, h.ia, h.ib, h.na, h.nb⟩
theorem Lt.next1 {w W : World} {q q2 p pc r : Nat} {x x2 : PW} {d : PD} (h : Lt w W q q2 p pc r x x2 d) : Calls Tryz.prog 13 #[.pointer (some ⟨q, 0, none⟩)] W fun e w' => e = .returned (.int .i64 ((1 + r : Nat) : Int)) ∧ Bel W w' := by
  have := next_any h.a h.ia
  rwa [h.na] at this
theorem Lt.next2 {w W : World} {q q2 p pc r : Nat} {x x2 : PW} {d : PD} (h : Lt w W q q2 p pc r x x2 d) : Calls Tryz.prog 13 #[.pointer (some ⟨q2, 0, none⟩)] W fun e w' => e = .returned (.int .i64 ((1 + r : Nat) : Int)) ∧ Bel W w' := by
  obtain ⟨G, hG⟩ := h.b
  have := next_any hG h.ib
  rwa [h.nb] at this
theorem Lt.same {w W : World} {q q2 p pc r : Nat} {x x2 : PW} {d : PD} (h : Lt w W q q2 p pc r x x2 d) : Calls Tryz.prog 16 #[.pointer (some ⟨pc, 0, none⟩), .pointer (some ⟨p, 0, none⟩)] W fun e w' => e = .returned (.bool true) ∧ Bel W w' := by
  obtain ⟨M, B, hM⟩ := h.c
  obtain ⟨_, M2, B2, _, j2, _⟩ := h.a.ex
  have := same_any hM j2
  rwa [show smP d d = true by simp [smP]] at this
end Go.Proofs.YtgimciacapfbfaaGreatDoor
