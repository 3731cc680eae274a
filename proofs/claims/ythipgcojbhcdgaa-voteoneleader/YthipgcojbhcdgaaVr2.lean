/- The region of a message that is taken off. -/
import Derived.Test.YthipgcojbhcdgaaVr0
namespace Go.Proofs.Ythipgcojbhcdgaa
open Go.RowKit Go.Maps Go.Sort
set_option linter.unusedSimpArgs false
set_option maxRecDepth 100000 in
set_option maxHeartbeats 4000000 in
theorem rg38 {a : Act} {p : String} {Q : Exit → Act → World → Prop} {gW cW r : Nat} {W w : World} {j k g7 c7 bM : Nat} {L : List (PP × Px)} {way : List PM} {ld : Int → Int} {V : Int → Int → Int} (hQ : ∀ c a x v w, Q (.panic c) (Act.put a x v) w → Q (.panic c) a w) (hsz : a.tmps.size = 242) (h12 : a.eval (.tmp 12) = .slice (some ⟨gW, 0, none⟩) way.length cW) (h16 : a.eval (.tmp 16) = .int .i64 (r : Int)) (hr : r < way.length) (HV : Vs W j k g7 c7 bM (.slice (some ⟨gW, 0, none⟩) way.length cW) L way ld V w)
    (hK : ∀ (adz : Option Addr) v1 v2 w', Bel w w' → Vs W j k g7 c7 bM v2 L (way.take r ++ way.drop (r + 1)) ld V w' → Q .normal (puts a [(145, (.slice (some ⟨gW, 0, none⟩) way.length cW : Value)), (146, (.int .i64 (r : Int) : Value)), (147, (.slice (some ⟨gW, 0, none⟩) r cW : Value)), (149, (.slice (some ⟨gW, 0, none⟩) way.length cW : Value)), (150, (.int .i64 (r : Int) : Value)), (151, (.int .i64 ((r + 1 : Nat) : Int) : Value)), (152, (.slice adz (way.length - (r + 1)) (cW - (r + 1)) : Value)), (148, (v1 : Value)), (153, (v2 : Value)), (12, (v2 : Value))]) w') :
    (Code.region 38 (ops38 p) true).wp Try.prog Q a w := by
  have HV2 := HV.next (Bel.refl w).drew
  have hwl := HV.wl
  obtain ⟨p1, p2, hcw⟩ := E44_parts HV2.wo r hr
  have l1 : (way.take r).length = r := by rw [List.length_take]; omega
  have l2 : (way.drop (r + 1)).length = way.length - (r + 1) := by rw [List.length_drop]
  unfold ops38
  refine wp_region_held_drew (S := fun _ => True) Try.follows trivial (fun _ => ?_)
  refine any_take (i := 0) (v := .slice (some ⟨gW, 0, none⟩) way.length cW) rfl (by kernel_rfl) (by kernel_rfl) (by kernel_rfl) (fun _ _ _ h => hQ _ _ _ _ _ h) rfl trivial (fun w _ => mv_run (.tmp 12) rfl _ (by simp [ev_put, sz_put, hsz, h12, h16])) ?_
  refine any_take (i := 1) (v := .int .i64 (r : Int)) rfl (by kernel_rfl) (by kernel_rfl) (by kernel_rfl) (fun _ _ _ h => hQ _ _ _ _ _ h) rfl trivial (fun w _ => mv_run (.tmp 16) rfl _ (by simp [ev_put, sz_put, hsz, h12, h16])) ?_
  refine any_take (i := 2) (v := .slice (some ⟨gW, 0, none⟩) r cW) rfl (by kernel_rfl) (by kernel_rfl) (by kernel_rfl) (fun _ _ _ h => hQ _ _ _ _ _ h) rfl trivial (fun w _ => sl_lo_run (.tmp 145) (.tmp 146) rfl gW way.length cW r (by simp [ev_put, sz_put, hsz, h12, h16]) (by simp [ev_put, sz_put, hsz, h12, h16]) (by omega)) ?_
  refine any_take (i := 4) (v := .slice (some ⟨gW, 0, none⟩) way.length cW) rfl (by kernel_rfl) (by kernel_rfl) (by kernel_rfl) (fun _ _ _ h => hQ _ _ _ _ _ h) rfl trivial (fun w _ => mv_run (.tmp 12) rfl _ (by simp [ev_put, sz_put, hsz, h12, h16])) ?_
  refine any_take (i := 5) (v := .int .i64 (r : Int)) rfl (by kernel_rfl) (by kernel_rfl) (by kernel_rfl) (fun _ _ _ h => hQ _ _ _ _ _ h) rfl trivial (fun w _ => mv_run (.tmp 16) rfl _ (by simp [ev_put, sz_put, hsz, h12, h16])) ?_
  refine any_take (i := 6) (v := .int .i64 ((r + 1 : Nat) : Int)) rfl (by kernel_rfl) (by kernel_rfl) (by kernel_rfl) (fun _ _ _ h => hQ _ _ _ _ _ h) rfl trivial (fun w _ => ad3_run (.tmp 150) rfl r (by simp [ev_put, sz_put, hsz, h12, h16]) (by omega)) ?_
  refine any_take (i := 7) (v := .slice (if cW = r + 1 then some ⟨gW, 0, none⟩ else some ⟨gW, (r + 1) * 12, none⟩) (way.length - (r + 1)) (cW - (r + 1))) rfl (by kernel_rfl) (by kernel_rfl) (by kernel_rfl) (fun _ _ _ h => hQ _ _ _ _ _ h) rfl trivial (fun w _ => sl_hi_run (.tmp 149) (.tmp 151) rfl gW way.length cW (r + 1) (by simp [ev_put, sz_put, hsz, h12, h16]) (by simp [ev_put, sz_put, hsz, h12, h16]) (by omega) hcw) ?_
  obtain ⟨v1, w1, hr1, ho1, hg1, hb1⟩ := elm_app_run (o := { dst := some 148, op := .call { callee := .builtin .append, args := #[.const (.slice none 0 0), .tmp 147], argTypes := #[37, 37] }, type := 37, pos := p, after := #[{ on := 2, ground := .data }], guard := none }) (a := puts a [(145, (.slice (some ⟨gW, 0, none⟩) way.length cW : Value)), (146, (.int .i64 (r : Int) : Value)), (147, (.slice (some ⟨gW, 0, none⟩) r cW : Value)), (149, (.slice (some ⟨gW, 0, none⟩) way.length cW : Value)), (150, (.int .i64 (r : Int) : Value)), (151, (.int .i64 ((r + 1 : Nat) : Int) : Value)), (152, (.slice (if cW = r + 1 then some ⟨gW, 0, none⟩ else some ⟨gW, (r + 1) * 12, none⟩) (way.length - (r + 1)) (cW - (r + 1)) : Value))]) (El.O.nil (E := E44) w.drew.heap.size w.drew) (Nat.le_refl _) (some ⟨gW, 0, none⟩) r cW p1 l1 (by simp; omega) (.const (.slice none 0 0)) (.tmp 147) rfl rfl (by simp [puts, ev_put, sz_put, hsz])
  have hB1 : Bel w.drew w1 := ((Ch.refl (fun i => w.drew.heap.size ≤ i) w.drew).grown hg1 (fun i hi => by cases hi)).below' (Bel.refl _)
  refine any_do (i := 3) (v := v1) (by kernel_rfl) rfl rfl hr1 ⟨trivial, ?_⟩
  obtain ⟨v2, w2, hr2, ho2, hg2, hb2⟩ := elm_app_run (w := w1) (o := { dst := some 153, op := .call { callee := .builtin .append, args := #[.tmp 148, .tmp 152], argTypes := #[37, 37] }, type := 37, pos := p, after := #[], guard := none }) (a := puts a [(145, (.slice (some ⟨gW, 0, none⟩) way.length cW : Value)), (146, (.int .i64 (r : Int) : Value)), (147, (.slice (some ⟨gW, 0, none⟩) r cW : Value)), (149, (.slice (some ⟨gW, 0, none⟩) way.length cW : Value)), (150, (.int .i64 (r : Int) : Value)), (151, (.int .i64 ((r + 1 : Nat) : Int) : Value)), (152, (.slice (if cW = r + 1 then some ⟨gW, 0, none⟩ else some ⟨gW, (r + 1) * 12, none⟩) (way.length - (r + 1)) (cW - (r + 1)) : Value)), (148, (v1 : Value))]) ho1 hB1.sz (if cW = r + 1 then some ⟨gW, 0, none⟩ else some ⟨gW, (r + 1) * 12, none⟩) (way.length - (r + 1)) (cW - (r + 1)) (p2.bel hB1) l2 (by simp; omega) (.tmp 148) (.tmp 152) rfl (by simp [puts, ev_put, sz_put, hsz]) (by simp [puts, ev_put, sz_put, hsz])
  have hB2 : Bel w.drew w2 := ((Ch.refl (fun i => w.drew.heap.size ≤ i) w1).grown hg2 (fun i hi => Or.inl (ho1.lt hi).1)).below' hB1
  refine any_do (i := 8) (v := v2) (by kernel_rfl) rfl rfl hr2 ⟨trivial, ?_⟩
  refine any_do (i := 9) (v := v2) (by kernel_rfl) rfl rfl (as_run (.tmp 153) rfl _ (by simp [ev_put, sz_put, hsz])) ⟨trivial, ?_⟩
  refine wpAnyH_done (by kernel_rfl) ?_ _
  refine hK _ v1 v2 w2 (((Bel.refl w).drew).trans hB2) (HV2.lost (fun m hm => ?_) (by simp; omega) hB2 (ho2.mono HV2.bel.sz))
  rcases List.mem_append.1 hm with h | h
  · exact List.mem_of_mem_take h
  · exact List.mem_of_mem_drop h
end Go.Proofs.Ythipgcojbhcdgaa
