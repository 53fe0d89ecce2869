/-
  The law of views: which may be, the first one of any numbers, with which sets a frame is tried, are the document's. No condition but that the number is a byte's.
-/
import Derived.Test.YtffbhdllepjdeaaVN
namespace Go.Proofs.Ytffbhdllepjdeaa
open Go.RowKit

theorem Ints.on {w w' : World} {A : Option Addr} {l : List Int} (h : Ints w.heap.size w A l) (hb : Below w.heap.size w w') : Ints w'.heap.size w' A l := (h.below hb).mono hb.size
theorem Ints.cut {n : Nat} {w : World} {A : Option Addr} {l : List Int} (h : Ints n w A l) (k : Nat) : Ints n w A (l.take k) := fun hne => by
  obtain ⟨b, off, e, hlt, hc⟩ := h (fun e => by subst e; simp at hne)
  refine ⟨b, off, e, hlt, fun j hj => ?_⟩
  rw [List.length_take] at hj
  rw [hc j (by omega), List.getElem?_take_of_lt (by omega)]
theorem near_ints {w0 : World} {A : Option Addr} {l : List Int} (h : Ints w0.heap.size w0 A l) (n : NearW w0) : Ints n.W.heap.size n.W A l := h.on n.h
theorem views_length (m : MV) (s : Int) : (viewsV m s).length ≤ 2 := by
  unfold viewsV setsV
  repeat' split
  all_goals simp
/-- What told answers, of a sequence of sets. -/
theorem toldI_any (gf : Nat) (lb : Array Value) (most : Nat) (L : List Int) (w : World) (hmost : most ≤ 9999)
    (hent : ∀ args w, (callFunc gf args).run Try.prog w = .ok (.enter gf args) w) (htells : ∀ w', Below w.heap.size w w' → ∀ n, 1 ≤ n → TellsZ n gf lb L w') :
    Calls Try.prog 14 #[.func (.func gf) #[] lb, .int .i64 most] w fun e w' => ∃ A c, e = .returned (.tuple #[.slice A (L.take most).length c, .bool true]) ∧ ((L.take most).length ≤ c ∧ (A = none → (L.take most).length = 0 ∧ c = 0)) ∧ Ints w'.heap.size w' A (L.take most) ∧ Below w.heap.size w w' :=
  (toldZ_any gf lb most L w hmost hent htells).mono fun e w' ⟨v, h1, h2, h3⟩ => by
    obtain ⟨A, c, rfl, hc, hn, hI⟩ := ints_ownZ h2
    exact ⟨A, c, h1, ⟨hc, hn⟩, hI, h3⟩

set_option maxRecDepth 8000 in
set_option maxHeartbeats 8000000 in
theorem views_law (m : MV) (i n s sender : Int) (mo : Nat) (w : World) (hmo : mo ≤ 255) : Calls Try.prog 3 #[.agg m.cells, .int .i64 i, .int .i64 n, .int .i64 s, .int .i64 sender, .int .u8 (mo : Int)] w fun e w' => e = .returned (.bool true) ∧ Below w.heap.size w w' := by
  have h1 := fun W => vnew_any i n s W
  have h2 := fun W => rvnew_any i n s W
  have h3 := fun W => rviews_any m sender W
  have h4 := fun W => views_any m sender W
  have h5 := fun W => begunV_any W
  have h6 := fun W => vcheck_any m W
  have h7 := fun W => rvcheck_any m W
  have h8 := fun W => vin_any m W
  have h9 := fun W => rvin_any m W
  have hl := views_length m sender
  unfold ResV at h1 h2
  generalize newV i n s = r at *
  generalize viewsV m sender = L at *
  generalize chkV m = ck at *
  generalize inV m = inn at *
  obtain ⟨re, x0, x1, x2, x3, x4, x5, x6⟩ := r
  obtain ⟨I, N, S, A, F, G, R⟩ := m
  unfold MV.cells at *
  dsimp only at *
  have hT9 : L.take 9 = L := List.take_of_length_le (by omega)
  have ht1 := fun gf lb W => toldI_any gf lb 9 L W (by decide)
  have ht2 := fun gf lb W => toldI_any gf lb mo L W (by omega)
  rw [hT9] at ht1
  obtain ⟨Q, hQ⟩ : ∃ Q, Q = L.take mo := ⟨_, rfl⟩
  rw [← hQ] at ht2
  have hql : Q.length = min L.length mo := by rw [hQ]; simp; omega
  have HQ := Lib.hid hQ; clear hQ hT9
  have H1 := Lib.hid h1; have H2 := Lib.hid h2; have H3 := Lib.hid h3; have H4 := Lib.hid h4; have H5 := Lib.hid h5; have H6 := Lib.hid h6; have H7 := Lib.hid h7; have H8 := Lib.hid h8; have H9 := Lib.hid h9; have T1 := Lib.hid ht1; have T2 := Lib.hid ht2; clear h1 h2 h3 h4 h5 h6 h7 h8 h9 ht1 ht2
  have HL := Lib.hid hl; have HQL := Lib.hid hql; clear hl hql
  obtain ⟨km, bc⟩ := bx1 w #[.int .i64 I, .int .i64 N, .int .i64 S, .int .i64 A, .int .i64 F, .int .i64 G, .int .i64 R] 23
  go_enter Try.func3, Try.ntmps3
  go_wp2_with fail
  generalize w.alloc (.cells #[.int .i64 I, .int .i64 N, .int .i64 S, .int .i64 A, .int .i64 F, .int .i64 G, .int .i64 R] 23) = u1 at *
  refine (H1.out _).mono ?_
  rintro e w1 ⟨rfl, hC⟩
  dsimp only
  replace km := km.on hC; replace bc := bc.trans (hC.mono bc.size); clear hC
  have z_ka_km := km.lt
  have zb_ka := bc.size
  have ka := Blk.new w1 23 #[.int .i64 x0, .int .i64 x1, .int .i64 x2, .int .i64 x3, .int .i64 x4, .int .i64 x5, .int .i64 x6]
  have al := Below.al w1 (.cells #[.int .i64 x0, .int .i64 x1, .int .i64 x2, .int .i64 x3, .int .i64 x4, .int .i64 x5, .int .i64 x6] 23)
  replace km := km.on al; replace bc := bc.trans (al.mono bc.size); clear al
  go_wp2_with fail
  generalize w1.alloc (.cells #[.int .i64 x0, .int .i64 x1, .int .i64 x2, .int .i64 x3, .int .i64 x4, .int .i64 x5, .int .i64 x6] 23) = u2 at *
  generalize w1.heap.size = g2 at *
  refine (H2.out _).mono ?_
  rintro e w2 ⟨rfl, hC⟩
  dsimp only
  replace km := km.on hC; replace ka := ka.on hC; replace bc := bc.trans (hC.mono bc.size); clear hC
  have z_kb_km := km.lt
  have z_kb_ka := ka.lt
  have zb_kb := bc.size
  have kb := Blk.new w2 23 #[.int .i64 x0, .int .i64 x1, .int .i64 x2, .int .i64 x3, .int .i64 x4, .int .i64 x5, .int .i64 x6]
  have al := Below.al w2 (.cells #[.int .i64 x0, .int .i64 x1, .int .i64 x2, .int .i64 x3, .int .i64 x4, .int .i64 x5, .int .i64 x6] 23)
  replace km := km.on al; replace ka := ka.on al; replace bc := bc.trans (al.mono bc.size); clear al
  obtain ⟨⟨pkm_0, pkm_1, pkm_2, pkm_3, pkm_4, pkm_5, pkm_6⟩, pkm_0f, pkm_1f, pkm_2f, pkm_3f, pkm_4f, pkm_5f, pkm_6f⟩ := km.seven
  go_wp2_with fail
  clear pkm_0 pkm_1 pkm_2 pkm_3 pkm_4 pkm_5 pkm_6 pkm_0f pkm_1f pkm_2f pkm_3f pkm_4f pkm_5f pkm_6f
  generalize w2.alloc (.cells #[.int .i64 x0, .int .i64 x1, .int .i64 x2, .int .i64 x3, .int .i64 x4, .int .i64 x5, .int .i64 x6] 23) = u3 at *
  generalize w2.heap.size = g3 at *
  refine (H3.out _).mono ?_
  rintro e w3 ⟨A2, c2, rfl, hc2, hn2, hL2, hC⟩
  dsimp only
  replace km := km.on hC; replace ka := ka.on hC; replace kb := kb.on hC; replace bc := bc.trans (hC.mono bc.size); clear hC
  obtain ⟨⟨pkm_0, pkm_1, pkm_2, pkm_3, pkm_4, pkm_5, pkm_6⟩, pkm_0f, pkm_1f, pkm_2f, pkm_3f, pkm_4f, pkm_5f, pkm_6f⟩ := km.seven
  go_wp2_with fail
  clear pkm_0 pkm_1 pkm_2 pkm_3 pkm_4 pkm_5 pkm_6 pkm_0f pkm_1f pkm_2f pkm_3f pkm_4f pkm_5f pkm_6f
  refine (H4.out _).mono ?_
  rintro e w4a ⟨gf, lb, rfl, hent, htells, hC⟩
  dsimp only
  replace km := km.on hC; replace ka := ka.on hC; replace kb := kb.on hC; replace hL2 := hL2.on hC; replace bc := bc.trans (hC.mono bc.size); clear hC
  have HE := Lib.hid hent; have HT := Lib.hid htells; clear hent htells
  go_wp2_with fail
  refine (T1.out gf lb _ HE.out HT.out).mono ?_
  rintro e w4 ⟨B1, d1, rfl, hd1, hB1, hC⟩
  dsimp only
  clear HE HT
  replace km := km.on hC; replace ka := ka.on hC; replace kb := kb.on hC; replace hL2 := hL2.on hC; replace bc := bc.trans (hC.mono bc.size); clear hC
  obtain ⟨⟨pkm_0, pkm_1, pkm_2, pkm_3, pkm_4, pkm_5, pkm_6⟩, pkm_0f, pkm_1f, pkm_2f, pkm_3f, pkm_4f, pkm_5f, pkm_6f⟩ := km.seven
  go_wp2_with fail
  clear pkm_0 pkm_1 pkm_2 pkm_3 pkm_4 pkm_5 pkm_6 pkm_0f pkm_1f pkm_2f pkm_3f pkm_4f pkm_5f pkm_6f
  refine (H4.out _).mono ?_
  rintro e w5a ⟨gf, lb, rfl, hent, htells, hC⟩
  dsimp only
  replace km := km.on hC; replace ka := ka.on hC; replace kb := kb.on hC; replace hL2 := hL2.on hC; replace hB1 := hB1.on hC; replace bc := bc.trans (hC.mono bc.size); clear hC
  have HE := Lib.hid hent; have HT := Lib.hid htells; clear hent htells
  go_wp2_with fail
  refine (T2.out gf lb _ HE.out HT.out).mono ?_
  rintro e w5 ⟨B2, d2, rfl, hd2, hB2, hC⟩
  dsimp only
  clear HE HT
  replace km := km.on hC; replace ka := ka.on hC; replace kb := kb.on hC; replace hL2 := hL2.on hC; replace hB1 := hB1.on hC; replace bc := bc.trans (hC.mono bc.size); clear hC
  go_wp2_with fail
  have hcut : Ints w5.heap.size w5 A2 Q := by rw [HQ.out]; exact hL2.cut mo
  have e1 := fun n : NearW w5 => zsame_yes B1 A2 d1 c2 L.length L n.W rfl (by have := HL.out; unfold maxLen; omega) (near_ints hB1 n) (near_ints hL2 n)
  have e2 := fun n : NearW w5 => zsame_yes B2 A2 d2 c2 Q.length Q n.W rfl (by have := HL.out; have := HQL.out; unfold maxLen; omega) (near_ints hB2 n) (near_ints hcut n)
  have hln : L.length ≤ 2 := HL.out
  have hqn := HQL.out
  clear hL2 hB1 hB2 hcut hd1 hd2
  generalize L.length = ln at *
  generalize Q.length = qn at *
  have E1 := Lib.hid e1; have E2 := Lib.hid e2; clear e1 e2
  obtain ⟨p0, p1, p2, p3, p4, p5, p6⟩ := near_seven km
  obtain ⟨a0, a1, a2, a3, a4, a5, a6⟩ := near_seven ka
  obtain ⟨b0, b1, b2, b3, b4, b5, b6⟩ := near_seven kb
  have BC := Lib.hid bc; clear km ka kb bc HQL HL
  by_cases hlt : mo < ln
  · obtain rfl : qn = mo := by omega
    clear hqn
    refine wp_region_near (by kernel_rfl) (by kernel_rfl) ?_
    repeat (go_big_quiet_step (first
      | (go_at_call 16; with_reducible exact near_call (H5.out _))
      | (go_at_call 17; with_reducible exact near_call (H6.out _))
      | (go_at_call 18; with_reducible exact near_call (H7.out _))
      | (go_at_call 19; with_reducible exact near_call (H8.out _))
      | (go_at_call 20; with_reducible exact near_call (H9.out _))
      | (go_at_call 21; with_reducible exact near_call (E1.out _))
      | (go_at_call 21; with_reducible exact near_call (E2.out _))))
    refine wpQuiet_nil ?_
    rintro _ ⟨nw, rfl⟩
    go_wp2
    go_ret
    exact ⟨rfl, below_then BC.out nw.h⟩
  · obtain rfl : qn = ln := by omega
    clear hqn
    refine wp_region_near (by kernel_rfl) (by kernel_rfl) ?_
    repeat (go_big_quiet_step (first
      | (go_at_call 16; with_reducible exact near_call (H5.out _))
      | (go_at_call 17; with_reducible exact near_call (H6.out _))
      | (go_at_call 18; with_reducible exact near_call (H7.out _))
      | (go_at_call 19; with_reducible exact near_call (H8.out _))
      | (go_at_call 20; with_reducible exact near_call (H9.out _))
      | (go_at_call 21; with_reducible exact near_call (E1.out _))
      | (go_at_call 21; with_reducible exact near_call (E2.out _))))
    refine wpQuiet_nil ?_
    rintro _ ⟨nw, rfl⟩
    go_wp2
    go_ret
    exact ⟨rfl, below_then BC.out nw.h⟩
end Go.Proofs.Ytffbhdllepjdeaa
