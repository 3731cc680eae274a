/- NetNil's walk. -/
import Derived.Test.YtbcgikkdhfbphaaNil
namespace Go.Proofs.Ytbcgikkdhfbphaa
open Go.RowKit Go.Maps
set_option maxRecDepth 100000 in
set_option maxHeartbeats 2000000 in
theorem nil_law (a b i : Int) (s : ByteArray) (w : World) : Calls Try.prog 7 #[.int .i64 a, .int .i64 b, .int .i64 i, .string s] w fun e w' => e = .returned (.bool true) ∧ Bel w w' := by
  go_enter Try.func7, Try.ntmps7
  go_wp2_with (first
    | (go_at_call 18; refine (peek_nil _ _ _ _).mono ?_; rintro e w1 ⟨rfl, hb1⟩; have HB1 := hide hb1; clear hb1)
    | (go_at_call 19; refine (take_nil _ _ _ _).mono ?_; rintro e w2 ⟨rfl, hb2⟩; have HB2 := hide ((unhide HB1).trans hb2); clear hb2)
    | (refine store_pk rfl _ _ rfl (at_new w2 _) (0, 0, ⟨#[]⟩) rfl rfl ?_; intro W3 hr3 hc3))
  have hbel3 : Bel w W3 := ((((unhide HB2).alloc (.cells #[.int .i64 0, .int .i64 0, .string ⟨#[]⟩] 46)).ch (fun i => w.heap.size ≤ i)).trans hc3 (fun i hi => by rw [hi]; exact Or.inl (unhide HB2).size)).below (Nat.le_refl _) (fun i hi => hi)
  have HB3 := hide hbel3
  have HR3 := hide hr3
  clear hbel3 hr3 hc3 HB1 HB2
  generalize w2.heap.size = B at *
  go_wp2_with (first
    | (go_at_call 24; refine (tick_nil _ _).mono ?_; rintro e w4 ⟨rfl, hb4⟩; have HB4 := hide hb4; clear hb4)
    | (go_at_call 23; refine (draw_nil _ _ _).mono ?_; rintro e w5 ⟨rfl, hb5⟩; have HB5 := hide ((unhide HB4).trans hb5); have hr5 := hb5.row ((unhide HB4).row (unhide HR3)); have b0 : w5.cell? ⟨B, 0, none⟩ = some (.int .i64 0) := cell_of hr5; have b1 : w5.cell? ⟨B, 1, none⟩ = some (.int .i64 0) := cell_of hr5; have b2 : w5.cell? ⟨B, 2, none⟩ = some (.string ⟨#[]⟩) := cell_of hr5; clear hr5 hb5)
    | (go_at_call 15; refine (send_nil _ _ _ _).mono ?_; rintro e w6 ⟨rfl, hb6⟩; have HB6 := hide ((unhide HB5).trans hb6); clear hb6)
    | (go_at_call 17; refine (drop_nil _ _ _ _).mono ?_; rintro e w7 ⟨rfl, hb7⟩; have HB7 := hide ((unhide HB6).trans hb7); clear hb7)
    | (go_at_call 16; refine (doub_nil _ _ _ _).mono ?_; rintro e w8 ⟨rfl, hb8⟩; have HB8 := hide ((unhide HB7).trans hb8); clear hb8)
    | (go_at_call 21; refine (part_nil _ _).mono ?_; rintro e w9 ⟨rfl, hb9⟩; have HB9 := hide (((unhide HB8).alloc _).trans hb9); clear hb9)
    | (go_at_call 20; refine (parted_nil _ _ _).mono ?_; rintro e w10 ⟨rfl, hb10⟩; have HB10 := hide ((unhide HB9).trans hb10); clear hb10)
    | (go_at_call 25; refine (len_nil _ _ _).mono ?_; rintro e w11 ⟨rfl, hb11⟩; have HB11 := hide ((unhide HB10).trans hb11); clear hb11)
    | (go_at_call 22; refine (wait_nil _).mono ?_; rintro e w12 ⟨rfl, hb12⟩; have HB12 := hide ((unhide HB11).trans hb12); clear hb12)
    | (go_at_call 26; refine (ticks_nil _ _).mono ?_; rintro e w13 ⟨rfl, hb13⟩; have HB13 := hide ((unhide HB12).trans hb13); clear hb13)
    | (go_at_call 12; refine (copy_nil _).mono ?_; rintro e w14 ⟨rfl, hb14⟩; have HB14 := hide ((unhide HB13).trans hb14); clear hb14)
    | (go_at_call 27; refine (nodes_nil _).mono ?_; rintro e w99 ⟨rfl, hw99⟩; rw [hw99]; clear hw99)
    | (go_at_call 10; refine (alive_any _).mono ?_; rintro e w15 ⟨rfl, hb15⟩; have HB15 := hide ((unhide HB14).trans hb15); clear hb15))
  go_ret
  exact ⟨rfl, (unhide HB3).trans (unhide HB15)⟩
end Go.Proofs.Ytbcgikkdhfbphaa
