/- The document's does: files behind a thing that may be done. -/
import Derived.Test.YtpngcmlaimcceaaDob
namespace Go.Proofs.Ytpngcmlaimcceaa
open Go.RowKit Go.Maps Go.WideMaps
/-- A thing as the document's four cells. -/
def oC : Op5 → Int
  | .inl (_, _) => 1
  | .inr (.inl (_, _)) => 2
  | .inr (.inr (.inl (_, _))) => 3
  | .inr (.inr (.inr (.inl (_, _)))) => 4
  | .inr (.inr (.inr (.inr _))) => 5
def oN : Op5 → List UInt8
  | .inl (n, _) => n
  | .inr (.inl (n, _)) => n
  | .inr (.inr (.inl (n, _))) => n
  | .inr (.inr (.inr (.inl (n, _)))) => n
  | .inr (.inr (.inr (.inr n))) => n
def oT : Op5 → List UInt8
  | .inl (_, t) => t
  | .inr (.inl (_, t)) => t
  | .inr (.inr (.inr (.inl (_, t)))) => t
  | _ => []
def oK : Op5 → Int
  | .inr (.inr (.inl (_, k))) => k
  | _ => 0
def vO (o : Op5) : Value := .agg #[.int .i64 (oC o), .string ⟨(oN o).toArray⟩, .string ⟨(oT o).toArray⟩, .int .i64 (oK o)]
theorem Ro.since {w W W' : World} {v : Value} {l : Fs} (h : Ro W W' v l) (c : Bel w W) : Ro w W' v l := by
  refine ⟨⟨h.own.1, ?_⟩, c.trans h.bel⟩
  rcases h.own.2 with h' | ⟨g, cap, cur, h1, h0, h2⟩
  · exact Or.inl h'
  · exact Or.inr ⟨g, cap, cur, h1, Nat.le_trans c.size h0, h2⟩
set_option maxRecDepth 100000 in
set_option maxHeartbeats 2000000 in
theorem ddoes_app (l : Fs) (v : Value) (n t : List UInt8) (w : World) (hr : Rf w v l) (hl : l.length ≤ 100000) (hs : srt l) (hsum : (get l n).length + t.length ≤ 1099511627776) :
    Calls Try.prog 52 #[v, .agg #[.int .i64 1, .string ⟨n.toArray⟩, .string ⟨t.toArray⟩, .int .i64 0]] w fun e w' => ∃ v', e = .returned v' ∧ Ro w w' v' (put l n (get l n ++ t)) := by
  have hsz : ¬ 9223372036854775807 < (get l n).length + t.length := by omega
  have hfu := Try.follows
  obtain ⟨W, hW⟩ : ∃ W, W = (w.alloc (.cells #[.int .i64 1, .string ⟨n.toArray⟩, .string ⟨t.toArray⟩, .int .i64 0] 60)).drew := ⟨_, rfl⟩
  have hbW : Bel w W := by rw [hW]; exact ((Bel.refl w).alloc _).drew
  have hrow : W.heap[w.heap.size]? = some (.cells #[.int .i64 1, .string ⟨n.toArray⟩, .string ⟨t.toArray⟩, .int .i64 0] 60) := by rw [hW]; exact at_new w _
  have c1 : W.cell? ⟨w.heap.size, 1, none⟩ = some (.string ⟨n.toArray⟩) := cell_of hrow
  have c2 : W.cell? ⟨w.heap.size, 2, none⟩ = some (.string ⟨t.toArray⟩) := cell_of hrow
  have c3 : W.cell? ⟨w.heap.size, 3, none⟩ = some (.int .i64 0) := cell_of hrow
  have HROW := hide hrow
  have h51 := hide (dbytes_any l v n W (hr.bel hbW) (by omega))
  have h57 := hide (dlaid_any l v n (get l n ++ t) W (hr.bel hbW) hl hs)
  rw [← app_str] at h57
  have HW := hide hW
  clear hW hrow
  go_enter Try.func52, Try.ntmps52
  go_wp2_with fail
  refine wp_region_still_tail 10 hfu (by kernel_rfl) ?_
  change wpStill _ _ (World.drew _) (fun a' => wpList _ _ _ _ a' (World.drew _)) _ _
  simp only [List.take_succ_cons, List.take_zero, List.drop_succ_cons, List.drop_zero]
  rw [← unhide HW]
  repeat still_step
  still_call (unhide h51)
  repeat still_step
  refine wpStill_nil ?_
  go_wp2_with (go_at_call 57; refine (unhide h57).mono ?_; rintro e w3 ⟨v', rfl, hro⟩)
  go_ret
  exact ⟨v', rfl, hro.since hbW⟩
set_option maxRecDepth 100000 in
set_option maxHeartbeats 2000000 in
theorem ddoes_tr (l : Fs) (v : Value) (n : List UInt8) (k : Nat) (w : World) (hr : Rf w v l) (hl : l.length ≤ 100000) (hs : srt l) (hk : k ≤ (get l n).length) :
    Calls Try.prog 52 #[v, .agg #[.int .i64 3, .string ⟨n.toArray⟩, .string ⟨#[]⟩, .int .i64 k]] w fun e w' => ∃ v', e = .returned v' ∧ Ro w w' v' (put l n ((get l n).take k)) := by
  have hfu := Try.follows
  obtain ⟨W, hW⟩ : ∃ W, W = (w.alloc (.cells #[.int .i64 3, .string ⟨n.toArray⟩, .string ⟨#[]⟩, .int .i64 k] 60)).drew := ⟨_, rfl⟩
  have hbW : Bel w W := by rw [hW]; exact ((Bel.refl w).alloc _).drew
  have hrow : W.heap[w.heap.size]? = some (.cells #[.int .i64 3, .string ⟨n.toArray⟩, .string ⟨#[]⟩, .int .i64 k] 60) := by rw [hW]; exact at_new w _
  have c1 : W.cell? ⟨w.heap.size, 1, none⟩ = some (.string ⟨n.toArray⟩) := cell_of hrow
  have c2 : W.cell? ⟨w.heap.size, 2, none⟩ = some (.string ⟨#[]⟩) := cell_of hrow
  have c3 : W.cell? ⟨w.heap.size, 3, none⟩ = some (.int .i64 k) := cell_of hrow
  have HROW := hide hrow
  have h51 := hide (dbytes_any l v n W (hr.bel hbW) (by omega))
  have h57 := hide (dlaid_any l v n ((get l n).take k) W (hr.bel hbW) hl hs)
  rw [← ext_str] at h57
  have HW := hide hW
  clear hW hrow
  go_enter Try.func52, Try.ntmps52
  go_wp2_with fail
  refine wp_region_still_tail 10 hfu (by kernel_rfl) ?_
  change wpStill _ _ (World.drew _) (fun a' => wpList _ _ _ _ a' (World.drew _)) _ _
  simp only [List.take_succ_cons, List.take_zero, List.drop_succ_cons, List.drop_zero]
  rw [← unhide HW]
  repeat still_step
  still_call (unhide h51)
  repeat still_step
  refine wpStill_nil ?_
  go_wp2_with (go_at_call 57; refine (unhide h57).mono ?_; rintro e w3 ⟨v', rfl, hro⟩)
  go_ret
  exact ⟨v', rfl, hro.since hbW⟩
set_option maxRecDepth 100000 in
set_option maxHeartbeats 2000000 in
theorem ddoes_wr (l : Fs) (v : Value) (n t : List UInt8) (w : World) (hr : Rf w v l) (hl : l.length ≤ 100000) (hs : srt l) :
    Calls Try.prog 52 #[v, .agg #[.int .i64 2, .string ⟨n.toArray⟩, .string ⟨t.toArray⟩, .int .i64 0]] w fun e w' => ∃ v', e = .returned v' ∧ Ro w w' v' (put l n t) := by
  have hfu := Try.follows
  obtain ⟨W, hW⟩ : ∃ W, W = (w.alloc (.cells #[.int .i64 2, .string ⟨n.toArray⟩, .string ⟨t.toArray⟩, .int .i64 0] 60)) := ⟨_, rfl⟩
  have hbW : Bel w W := by rw [hW]; exact ((Bel.refl w).alloc _)
  have hrow : W.heap[w.heap.size]? = some (.cells #[.int .i64 2, .string ⟨n.toArray⟩, .string ⟨t.toArray⟩, .int .i64 0] 60) := by rw [hW]; exact at_new w _
  have c1 : W.cell? ⟨w.heap.size, 1, none⟩ = some (.string ⟨n.toArray⟩) := cell_of hrow
  have c2 : W.cell? ⟨w.heap.size, 2, none⟩ = some (.string ⟨t.toArray⟩) := cell_of hrow
  have c3 : W.cell? ⟨w.heap.size, 3, none⟩ = some (.int .i64 0) := cell_of hrow
  have HROW := hide hrow
  have h57 := hide (dlaid_any l v n t W (hr.bel hbW) hl hs)
  have HW := hide hW
  clear hW hrow
  go_enter Try.func52, Try.ntmps52
  go_wp2_with (first | (go_at_call 57; rw [← unhide HW]; refine (unhide h57).mono ?_; rintro e w3 ⟨v', rfl, hro⟩))
  go_ret
  exact ⟨v', rfl, hro.since hbW⟩
set_option maxRecDepth 100000 in
set_option maxHeartbeats 2000000 in
theorem ddoes_rm (l : Fs) (v : Value) (n : List UInt8) (w : World) (hr : Rf w v l) (hl : l.length ≤ 100000) :
    Calls Try.prog 52 #[v, .agg #[.int .i64 5, .string ⟨n.toArray⟩, .string ⟨#[]⟩, .int .i64 0]] w fun e w' => ∃ v', e = .returned v' ∧ Ro w w' v' (del l n) := by
  have hfu := Try.follows
  obtain ⟨W, hW⟩ : ∃ W, W = (w.alloc (.cells #[.int .i64 5, .string ⟨n.toArray⟩, .string ⟨#[]⟩, .int .i64 0] 60)) := ⟨_, rfl⟩
  have hbW : Bel w W := by rw [hW]; exact ((Bel.refl w).alloc _)
  have hrow : W.heap[w.heap.size]? = some (.cells #[.int .i64 5, .string ⟨n.toArray⟩, .string ⟨#[]⟩, .int .i64 0] 60) := by rw [hW]; exact at_new w _
  have c1 : W.cell? ⟨w.heap.size, 1, none⟩ = some (.string ⟨n.toArray⟩) := cell_of hrow
  have c2 : W.cell? ⟨w.heap.size, 2, none⟩ = some (.string ⟨#[]⟩) := cell_of hrow
  have c3 : W.cell? ⟨w.heap.size, 3, none⟩ = some (.int .i64 0) := cell_of hrow
  have HROW := hide hrow
  have h58 := hide (dgone_any l v n W (hr.bel hbW) hl)
  have HW := hide hW
  clear hW hrow
  go_enter Try.func52, Try.ntmps52
  go_wp2_with (first | (go_at_call 58; rw [← unhide HW]; refine (unhide h58).mono ?_; rintro e w3 ⟨v', rfl, hro⟩))
  go_ret
  exact ⟨v', rfl, hro.since hbW⟩
set_option maxRecDepth 100000 in
set_option maxHeartbeats 2000000 in
theorem ddoes_ren (l : Fs) (v : Value) (n t : List UInt8) (w : World) (hr : Rf w v l) (hl : l.length ≤ 100000) (hs : srt l) :
    Calls Try.prog 52 #[v, .agg #[.int .i64 4, .string ⟨n.toArray⟩, .string ⟨t.toArray⟩, .int .i64 0]] w fun e w' => ∃ v', e = .returned v' ∧ Ro w w' v' (put (del l n) t (get l n)) := by
  have hfu := Try.follows
  obtain ⟨W, hW⟩ : ∃ W, W = (w.alloc (.cells #[.int .i64 4, .string ⟨n.toArray⟩, .string ⟨t.toArray⟩, .int .i64 0] 60)) := ⟨_, rfl⟩
  have hbW : Bel w W := by rw [hW]; exact ((Bel.refl w).alloc _)
  have hrow : W.heap[w.heap.size]? = some (.cells #[.int .i64 4, .string ⟨n.toArray⟩, .string ⟨t.toArray⟩, .int .i64 0] 60) := by rw [hW]; exact at_new w _
  have c1 : W.cell? ⟨w.heap.size, 1, none⟩ = some (.string ⟨n.toArray⟩) := cell_of hrow
  have c2 : W.cell? ⟨w.heap.size, 2, none⟩ = some (.string ⟨t.toArray⟩) := cell_of hrow
  have c3 : W.cell? ⟨w.heap.size, 3, none⟩ = some (.int .i64 0) := cell_of hrow
  have HROW := hide hrow
  have h51 := hide (dbytes_any l v n W (hr.bel hbW) (by omega))
  have h58 := hide (dgone_any l v n W.drew (hr.bel hbW.drew) hl)
  have hlen : (del l n).length ≤ 100000 := Nat.le_trans (len_del l n) hl
  have hs2 := del_srt hs n
  have h57 := hide (fun W3 v3 (h : Rf W3 v3 (del l n)) => dlaid_any (del l n) v3 t (get l n) W3 h hlen hs2)
  have HW := hide hW
  clear hW hrow hs hs2
  go_enter Try.func52, Try.ntmps52
  go_wp2_with (first | (go_at_call 51; rw [← unhide HW]; refine (unhide h51).mono ?_; rintro e w3 ⟨rfl, hw3⟩; rw [hw3]))
  go_region_with (first
    | (go_at_call 58; refine (unhide h58).mono ?_; rintro e w4 ⟨v4, rfl, hro4⟩; have c2' : w4.cell? ⟨w.heap.size, 2, none⟩ = some (.string ⟨t.toArray⟩) := cell_of (hro4.bel.row (unhide HROW)); have HRO := hide hro4; clear hro4)
    | (go_at_call 57; refine ((unhide h57) _ _ (unhide HRO).rf).mono ?_; rintro e w5 ⟨v', rfl, hro⟩))
  all_goals
    go_wp2_with fail
    go_ret
    exact ⟨v', rfl, hro.since (hbW.drew.trans (unhide HRO).bel)⟩
/-- A thing that may be done. -/
theorem ddoes_any (l : Fs) (v : Value) (o : Op5) (w : World) (hr : Rf w v l) (hl : l.length ≤ 100000) (hs : srt l) (hk : ok5 l o) (hC : tot l + (oT o).length ≤ 1099511627776) :
    Calls Try.prog 52 #[v, vO o] w fun e w' => ∃ v', e = .returned v' ∧ Ro w w' v' (run5 l o) := by
  cases o using Op5.on with
  | app n t => exact ddoes_app l v n t w hr hl hs (by have := get_le l n; have : (oT (.app n t)).length = t.length := rfl; omega)
  | wr n t => exact ddoes_wr l v n t w hr hl hs
  | tr n k => exact ddoes_tr l v n k w hr hl hs hk.2.2
  | ren a b => exact ddoes_ren l v a b w hr hl hs
  | rm n => exact ddoes_rm l v n w hr hl
end Go.Proofs.Ytpngcmlaimcceaa
