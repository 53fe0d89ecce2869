/-
  The law of agreement: two nodes with the same set that do not wait for followers have the same set behind the same outcome of another node's slot. Conditions: the bytes lie in memory as they came in.
-/
import Derived.Test.YtffbhdllepjdeaaVN
import Derived.Test.YtffbhdllepjdeaaVQ
namespace Go.Proofs.Ytffbhdllepjdeaa
open Go.RowKit

theorem st1_1 (W : World) (g : Nat) (v0 : Value) : W.grownBy (W.setCell ⟨g, 1, none⟩ v0) (some g) := only_setCell (World.grownBy.refl W (some g)) (.inl rfl) _
theorem Blk.put1_1 {W : World} {g : Nat} {t : TypeId} {a0 a1 a2 a3 a4 a5 a6 : Value} (h : Blk W g t #[a0, a1, a2, a3, a4, a5, a6]) (v0 : Value) : Blk (W.setCell ⟨g, 1, none⟩ v0) g t #[a0, v0, a2, a3, a4, a5, a6] := by
  simpa using (h.set_ 1 v0)
/-- A view that does not wait. -/
abbrev calmV (I N S A F : Int) : MV := ⟨I, N, S, A, F, 0, 0⟩
theorem calm_null {I N S A F s : Int} (hok : okV (calmV I N S A F)) (hs : othV (calmV I N S A F) s) :
    nullV (calmV I N S A F) s = (0, calmV I N (outI S (pw s)) A F) ∧ okV (calmV I N (outI S (pw s)) A F) := by
  have h0 := ask_ok hok hs
  have e : nullV (calmV I N S A F) s = (0, calmV I N (outI S (pw s)) A F) := by
    unfold nullV goneV
    rw [if_pos h0, if_neg (by rintro ⟨h, _⟩; cases h)]
  exact ⟨e, null_may e⟩
theorem calm_bad {I N S A F s : Int} (hok : okV (calmV I N S A F)) (hs : othV (calmV I N S A F) s) :
    badV (calmV I N S A F) s = (0, calmV I N (outI S (pw s)) A (moreV F)) ∧ okV (calmV I N (outI S (pw s)) A (moreV F)) := by
  have h0 := ask_ok hok hs
  have e : badV (calmV I N S A F) s = (0, calmV I N (outI S (pw s)) A (moreV F)) := by
    unfold badV failV goneV
    rw [if_pos h0, if_neg (by rintro ⟨h, _⟩; cases h)]
  exact ⟨e, bad_may e⟩
theorem calm_good {I N S A F s : Int} (hok : okV (calmV I N S A F)) (hs : othV (calmV I N S A F) s) :
    goodV (calmV I N S A F) s 0 = (0, calmV I N (orI S (pw s)) (moreV A) F) ∧ okV (calmV I N (orI S (pw s)) (moreV A) F) := by
  have h0 := ask_ok hok hs
  have e : goodV (calmV I N S A F) s 0 = (0, calmV I N (orI S (pw s)) (moreV A) F) := by
    unfold goodV viewOfV viewsV setsV rightV
    rw [if_pos h0, if_pos h0]
    rfl
  exact ⟨e, (good_may e).1⟩
/-- The slot of a round. -/
theorem slot_of (k N x : Int) (hN : 4 ≤ N ∧ N ≤ 8) :
    ∃ t1 t2 t3 : Int, k % N = t1 ∧ x.tmod N = t2 ∧ (t1 + t2 + N).tmod N = t3 ∧ (0 ≤ t1 ∧ t1 < 8) ∧ (-8 < t2 ∧ t2 < 8) ∧ (0 ≤ t3 ∧ t3 < N) := by
  have a1 : 0 ≤ k % N := Int.emod_nonneg k (by omega)
  have a2 : k % N < N := Int.emod_lt_of_pos k (by omega)
  have b1 : x.tmod N < N := Int.tmod_lt_of_pos x (by omega)
  have b2 : -N < x.tmod N := Int.lt_tmod_of_pos x (by omega)
  generalize k % N = t1 at *
  generalize x.tmod N = t2 at *
  have c1 : 0 ≤ (t1 + t2 + N).tmod N := Int.tmod_nonneg N (by omega)
  have c2 : (t1 + t2 + N).tmod N < N := Int.tmod_lt_of_pos _ (by omega)
  exact ⟨t1, t2, _, rfl, rfl, rfl, by omega, by omega, c1, c2⟩
theorem rem3 (x : UInt8) : ∃ q : Nat, q < 3 ∧ (x.toNat : Int).tmod 3 = (q : Int) := by
  refine ⟨x.toNat % 3, Nat.mod_lt _ (by decide), ?_⟩
  rw [Int.tmod_eq_emod_of_nonneg (by omega)]
  omega

set_option maxRecDepth 8000 in
set_option maxHeartbeats 16000000 in
theorem agree_law (a b : MV) (x : Int) (A : Option Addr) (n cp : Nat) (bs : List UInt8) (w : World) (hn : n = bs.length) (hc : n ≤ cp) (hm : cp ≤ maxLen) (hA : Byt w.heap.size w A bs) : Calls Try.prog 7 #[.agg a.cells, .agg b.cells, .int .i64 x, .slice A n cp] w fun e w' => e = .returned (.bool true) ∧ Below w.heap.size w w' := by
  have hb := fun W => begunV_any W
  have hca := fun W => vcheck_any (calmV a.I b.N b.S a.A a.F) W
  have hcb := fun W => vcheck_any (calmV b.I b.N b.S b.A b.F) W
  unfold maxLen at hm
  obtain ⟨aI, aN, aS, aA, aF, aG, aR⟩ := a
  obtain ⟨bI, N, S, bA, bF, bG, bR⟩ := b
  unfold calmV MV.cells at *
  dsimp only at *
  have HB := Lib.hid hb; have HA := Lib.hid hA; have HN := Lib.hid hn; clear hb hA hn
  by_cases hok : okV ⟨aI, N, S, aA, aF, 0, 0⟩
  · rw [chkV_ok hok] at hca
    by_cases hok2 : okV ⟨bI, N, S, bA, bF, 0, 0⟩
    · rw [chkV_ok hok2] at hcb
      have HCA := Lib.hid hca; have HCB := Lib.hid hcb; clear hca hcb
      have HO := Lib.hid hok; have HO2 := Lib.hid hok2; clear hok hok2
      by_cases hle : n ≤ 40
      · obtain ⟨ka, kb, bc⟩ := bx2 w #[.int .i64 aI, .int .i64 aN, .int .i64 aS, .int .i64 aA, .int .i64 aF, .int .i64 aG, .int .i64 aR] #[.int .i64 bI, .int .i64 N, .int .i64 S, .int .i64 bA, .int .i64 bF, .int .i64 bG, .int .i64 bR] 23 23
        go_enter Try.func7, Try.ntmps7
        go_wp2_with fail
        generalize (w.alloc (.cells #[.int .i64 aI, .int .i64 aN, .int .i64 aS, .int .i64 aA, .int .i64 aF, .int .i64 aG, .int .i64 aR] 23)).alloc (.cells #[.int .i64 bI, .int .i64 N, .int .i64 S, .int .i64 bA, .int .i64 bF, .int .i64 bG, .int .i64 bR] 23) = u1 at *
        obtain ⟨⟨pka_0, pka_1, pka_2, pka_3, pka_4, pka_5, pka_6⟩, pka_0f, pka_1f, pka_2f, pka_3f, pka_4f, pka_5f, pka_6f⟩ := ka.seven
        obtain ⟨⟨pkb_0, pkb_1, pkb_2, pkb_3, pkb_4, pkb_5, pkb_6⟩, pkb_0f, pkb_1f, pkb_2f, pkb_3f, pkb_4f, pkb_5f, pkb_6f⟩ := kb.seven
        go_region
        clear pka_0 pka_1 pka_2 pka_3 pka_4 pka_5 pka_6 pka_0f pka_1f pka_2f pka_3f pka_4f pka_5f pka_6f pkb_0 pkb_1 pkb_2 pkb_3 pkb_4 pkb_5 pkb_6 pkb_0f pkb_1f pkb_2f pkb_3f pkb_4f pkb_5f pkb_6f
        have hG := st1_1 u1 (w.heap.size) (.int .i64 N)
        replace kb := kb.grown hG (some_ne (by omega)); replace bc := Below.off bc bc.size (by omega) hG; replace ka := ka.put1_1 (.int .i64 N); clear hG
        have hG := st1_2 (u1.setCell ⟨w.heap.size, 1, none⟩ (.int .i64 N)) (w.heap.size) (.int .i64 S)
        replace kb := kb.grown hG (some_ne (by omega)); replace bc := Below.off bc bc.size (by omega) hG; replace ka := ka.put1_2 (.int .i64 S); clear hG
        generalize (u1.setCell ⟨w.heap.size, 1, none⟩ (.int .i64 N)).setCell ⟨w.heap.size, 2, none⟩ (.int .i64 S) = us at *
        have hdr : Below us.heap.size us us.drew := (Below.refl _ _).drew
        replace ka := ka.on hdr; replace kb := kb.on hdr; replace bc := bc.trans (hdr.mono bc.size)
        clear hdr
        generalize us.drew = ut at *
        obtain ⟨⟨pka_0, pka_1, pka_2, pka_3, pka_4, pka_5, pka_6⟩, pka_0f, pka_1f, pka_2f, pka_3f, pka_4f, pka_5f, pka_6f⟩ := ka.seven
        obtain ⟨⟨pkb_0, pkb_1, pkb_2, pkb_3, pkb_4, pkb_5, pkb_6⟩, pkb_0f, pkb_1f, pkb_2f, pkb_3f, pkb_4f, pkb_5f, pkb_6f⟩ := kb.seven
        have hG := st1_5 ut (w.heap.size) (.int .i64 0)
        replace kb := kb.grown hG (some_ne (by omega)); replace bc := Below.off bc bc.size (by omega) hG; replace ka := ka.put1_5 (.int .i64 0); clear hG
        have hG := st1_5 (ut.setCell ⟨w.heap.size, 5, none⟩ (.int .i64 0)) (w.heap.size + 1) (.int .i64 0)
        replace ka := ka.grown hG (some_ne (by omega)); replace bc := Below.off bc bc.size (by omega) hG; replace kb := kb.put1_5 (.int .i64 0); clear hG
        have hG := st1_6 ((ut.setCell ⟨w.heap.size, 5, none⟩ (.int .i64 0)).setCell ⟨w.heap.size + 1, 5, none⟩ (.int .i64 0)) (w.heap.size) (.int .i64 0)
        replace kb := kb.grown hG (some_ne (by omega)); replace bc := Below.off bc bc.size (by omega) hG; replace ka := ka.put1_6 (.int .i64 0); clear hG
        have hG := st1_6 (((ut.setCell ⟨w.heap.size, 5, none⟩ (.int .i64 0)).setCell ⟨w.heap.size + 1, 5, none⟩ (.int .i64 0)).setCell ⟨w.heap.size, 6, none⟩ (.int .i64 0)) (w.heap.size + 1) (.int .i64 0)
        replace ka := ka.grown hG (some_ne (by omega)); replace bc := Below.off bc bc.size (by omega) hG; replace kb := kb.put1_6 (.int .i64 0); clear hG
        go_wp2_with fail
        clear pka_0 pka_1 pka_2 pka_3 pka_4 pka_5 pka_6 pka_0f pka_1f pka_2f pka_3f pka_4f pka_5f pka_6f pkb_0 pkb_1 pkb_2 pkb_3 pkb_4 pkb_5 pkb_6 pkb_0f pkb_1f pkb_2f pkb_3f pkb_4f pkb_5f pkb_6f
        generalize (((ut.setCell ⟨w.heap.size, 5, none⟩ (.int .i64 0)).setCell ⟨w.heap.size + 1, 5, none⟩ (.int .i64 0)).setCell ⟨w.heap.size, 6, none⟩ (.int .i64 0)).setCell ⟨w.heap.size + 1, 6, none⟩ (.int .i64 0) = u2 at *
        refine (HB.out _).mono ?_
        rintro e w1 ⟨rfl, hC⟩
        dsimp only
        replace ka := ka.on hC; replace kb := kb.on hC; replace bc := bc.trans (hC.mono bc.size); clear hC
        obtain ⟨⟨pka_0, pka_1, pka_2, pka_3, pka_4, pka_5, pka_6⟩, pka_0f, pka_1f, pka_2f, pka_3f, pka_4f, pka_5f, pka_6f⟩ := ka.seven
        go_wp2_with fail
        clear pka_0 pka_1 pka_2 pka_3 pka_4 pka_5 pka_6 pka_0f pka_1f pka_2f pka_3f pka_4f pka_5f pka_6f
        refine (HCA.out _).mono ?_
        rintro e w2 ⟨rfl, hC⟩
        dsimp only
        replace ka := ka.on hC; replace kb := kb.on hC; replace bc := bc.trans (hC.mono bc.size); clear hC
        obtain ⟨⟨pkb_0, pkb_1, pkb_2, pkb_3, pkb_4, pkb_5, pkb_6⟩, pkb_0f, pkb_1f, pkb_2f, pkb_3f, pkb_4f, pkb_5f, pkb_6f⟩ := kb.seven
        go_wp2_with fail
        clear pkb_0 pkb_1 pkb_2 pkb_3 pkb_4 pkb_5 pkb_6 pkb_0f pkb_1f pkb_2f pkb_3f pkb_4f pkb_5f pkb_6f
        refine (HCB.out _).mono ?_
        rintro e w3 ⟨rfl, hC⟩
        dsimp only
        replace ka := ka.on hC; replace kb := kb.on hC; replace bc := bc.trans (hC.mono bc.size); clear hC
        clear HB HCA HCB
        go_wp2_with fail
        go_loopw [43] (fun i wr => ∃ (k : Nat) (S' A' F' B' E' : Int), k ≤ n ∧ i = .int .i64 k ∧ okV ⟨aI, N, S', A', F', 0, 0⟩ ∧ okV ⟨bI, N, S', B', E', 0, 0⟩ ∧ Blk wr w.heap.size 23 (cM aI N S' A' F' 0 0) ∧ Blk wr (w.heap.size + 1) 23 (cM bI N S' B' E' 0 0) ∧ Below w.heap.size w wr)
          (fun i _ => n - (intOf i).toNat)
        case atStart => exact ⟨0, S, aA, aF, bA, bF, by omega, rfl, HO.out, HO2.out, ka, kb, bc⟩
        case round =>
          clear ka kb bc HO HO2
          obtain ⟨k, S', A', F', B', E', hk, rfl, ho1, ho2, ka, kb, bc⟩ := hrel
          by_cases hlt : k < n
          · obtain ⟨b, off, rfl, _, hcell⟩ := (HA.out.below bc).at_ (k := k) (by have := HN.out; omega)
            have hki : (k : Int) < (n : Int) := by omega
            obtain ⟨oq, hq3, hq⟩ := rem3 (bs[k]?.getD 0)
            have hN := ok_node ho1
            dsimp only at hN
            obtain ⟨t1, t2, t3, e1, e2, e3, r1, r2, r3⟩ := slot_of k N x (by omega)
            have hn0 : (N == 0) = false := by simp; omega
            have hb1 : 4 ≤ N := hN.1
            have hb2 : N ≤ 8 := hN.2.1
            have hn1 : N ≠ 0 := by omega
            obtain ⟨ob, hob⟩ : ∃ ob : Int, ob = ((bs[k]?.getD 0).toNat : Int) := ⟨_, rfl⟩
            rw [← hob] at hcell hq
            clear hob hN
            have HO := Lib.hid ho1; have HO2 := Lib.hid ho2; clear ho1 ho2
            obtain ⟨⟨pka_0, pka_1, pka_2, pka_3, pka_4, pka_5, pka_6⟩, pka_0f, pka_1f, pka_2f, pka_3f, pka_4f, pka_5f, pka_6f⟩ := ka.seven
            obtain ⟨⟨pkb_0, pkb_1, pkb_2, pkb_3, pkb_4, pkb_5, pkb_6⟩, pkb_0f, pkb_1f, pkb_2f, pkb_3f, pkb_4f, pkb_5f, pkb_6f⟩ := kb.seven
            go_wp2
            go_quiet (fail)
            clear pka_0 pka_1 pka_2 pka_3 pka_4 pka_5 pka_6 pka_0f pka_1f pka_2f pka_3f pka_4f pka_5f pka_6f pkb_0 pkb_1 pkb_2 pkb_3 pkb_4 pkb_5 pkb_6 pkb_0f pkb_1f pkb_2f pkb_3f pkb_4f pkb_5f pkb_6f
            have hd := below_drewN (Below.refl wr.heap.size wr) nq
            replace ka := ka.on hd; replace kb := kb.on hd; replace bc := bc.trans (hd.mono bc.size); clear hd
            generalize wr.drewN nq = wd at *
            clear hcell e1 e2 e3 r1 r2 hb1 hb2
            by_cases ha : t3 = aI
            · subst ha
              obtain ⟨⟨pka_0, pka_1, pka_2, pka_3, pka_4, pka_5, pka_6⟩, pka_0f, pka_1f, pka_2f, pka_3f, pka_4f, pka_5f, pka_6f⟩ := ka.seven
              obtain ⟨⟨pkb_0, pkb_1, pkb_2, pkb_3, pkb_4, pkb_5, pkb_6⟩, pkb_0f, pkb_1f, pkb_2f, pkb_3f, pkb_4f, pkb_5f, pkb_6f⟩ := kb.seven
              go_wp2
              have HP := HO; have HP2 := HO2
              go_roundw
              case rel => exact ⟨k + 1, _, _, _, _, _, by omega, by go_num, HP.out, HP2.out, ka, kb, bc⟩
              case measure => simp [intOf]; omega
            have da : (t3 == aI) = false := by simpa using ha
            by_cases hbb : t3 = bI
            · subst hbb
              obtain ⟨⟨pka_0, pka_1, pka_2, pka_3, pka_4, pka_5, pka_6⟩, pka_0f, pka_1f, pka_2f, pka_3f, pka_4f, pka_5f, pka_6f⟩ := ka.seven
              obtain ⟨⟨pkb_0, pkb_1, pkb_2, pkb_3, pkb_4, pkb_5, pkb_6⟩, pkb_0f, pkb_1f, pkb_2f, pkb_3f, pkb_4f, pkb_5f, pkb_6f⟩ := kb.seven
              go_wp2
              have HP := HO; have HP2 := HO2
              go_roundw
              case rel => exact ⟨k + 1, _, _, _, _, _, by omega, by go_num, HP.out, HP2.out, ka, kb, bc⟩
              case measure => simp [intOf]; omega
            have db : (t3 == bI) = false := by simpa using hbb
            have ho1 : othV (calmV aI N S' A' F') t3 := ⟨r3, ha⟩
            have ho2 : othV (calmV bI N S' B' E') t3 := ⟨r3, hbb⟩
            obtain rfl | rfl | rfl : oq = 0 ∨ oq = 1 ∨ oq = 2 := by omega
            · have c1 := calm_null HO.out ho1
              have c2 := calm_null HO2.out ho2
              have f1 := fun W => vnull_any (calmV aI N S' A' F') t3 W
              have f2 := fun W => vnull_any (calmV bI N S' B' E') t3 W
              rw [c1.1] at f1; rw [c2.1] at f2
              have HP := Lib.hid c1.2; have HP2 := Lib.hid c2.2
              clear c1 c2 ho1 ho2
              unfold ResV MV.cells calmV at *
              dsimp only at *
              generalize outI S' (pw t3) = S2 at *
              have F1 := Lib.hid f1; have F2_ := Lib.hid f2; clear f1 f2
              obtain ⟨⟨pka_0, pka_1, pka_2, pka_3, pka_4, pka_5, pka_6⟩, pka_0f, pka_1f, pka_2f, pka_3f, pka_4f, pka_5f, pka_6f⟩ := ka.seven
              obtain ⟨⟨pkb_0, pkb_1, pkb_2, pkb_3, pkb_4, pkb_5, pkb_6⟩, pkb_0f, pkb_1f, pkb_2f, pkb_3f, pkb_4f, pkb_5f, pkb_6f⟩ := kb.seven
              go_wp2_with fail
              clear pka_0 pka_1 pka_2 pka_3 pka_4 pka_5 pka_6 pka_0f pka_1f pka_2f pka_3f pka_4f pka_5f pka_6f pkb_0 pkb_1 pkb_2 pkb_3 pkb_4 pkb_5 pkb_6 pkb_0f pkb_1f pkb_2f pkb_3f pkb_4f pkb_5f pkb_6f
              refine (F1.out _).mono ?_
              rintro e v1 ⟨rfl, hC⟩
              dsimp only
              replace ka := ka.on hC; replace kb := kb.on hC; replace bc := bc.trans (hC.mono bc.size); clear hC
              obtain ⟨⟨pka_0, pka_1, pka_2, pka_3, pka_4, pka_5, pka_6⟩, pka_0f, pka_1f, pka_2f, pka_3f, pka_4f, pka_5f, pka_6f⟩ := ka.seven
              obtain ⟨⟨pkb_0, pkb_1, pkb_2, pkb_3, pkb_4, pkb_5, pkb_6⟩, pkb_0f, pkb_1f, pkb_2f, pkb_3f, pkb_4f, pkb_5f, pkb_6f⟩ := kb.seven
              have hG := st7 v1 (w.heap.size) (.int .i64 aI) (.int .i64 N) (.int .i64 S2) (.int .i64 A') (.int .i64 F') (.int .i64 0) (.int .i64 0)
              replace kb := kb.grown hG (some_ne (by omega)); replace bc := Below.off bc bc.size (by omega) hG; replace ka := ka.put7 (.int .i64 aI) (.int .i64 N) (.int .i64 S2) (.int .i64 A') (.int .i64 F') (.int .i64 0) (.int .i64 0); clear hG
              go_wp2_with fail
              clear pka_0 pka_1 pka_2 pka_3 pka_4 pka_5 pka_6 pka_0f pka_1f pka_2f pka_3f pka_4f pka_5f pka_6f pkb_0 pkb_1 pkb_2 pkb_3 pkb_4 pkb_5 pkb_6 pkb_0f pkb_1f pkb_2f pkb_3f pkb_4f pkb_5f pkb_6f
              generalize ((((((v1.setCell ⟨w.heap.size, 0, none⟩ (.int .i64 aI)).setCell ⟨w.heap.size, 1, none⟩ (.int .i64 N)).setCell ⟨w.heap.size, 2, none⟩ (.int .i64 S2)).setCell ⟨w.heap.size, 3, none⟩ (.int .i64 A')).setCell ⟨w.heap.size, 4, none⟩ (.int .i64 F')).setCell ⟨w.heap.size, 5, none⟩ (.int .i64 0)).setCell ⟨w.heap.size, 6, none⟩ (.int .i64 0) = u1 at *
              refine (F2_.out _).mono ?_
              rintro e v2 ⟨rfl, hC⟩
              dsimp only
              replace ka := ka.on hC; replace kb := kb.on hC; replace bc := bc.trans (hC.mono bc.size); clear hC
              obtain ⟨⟨pka_0, pka_1, pka_2, pka_3, pka_4, pka_5, pka_6⟩, pka_0f, pka_1f, pka_2f, pka_3f, pka_4f, pka_5f, pka_6f⟩ := ka.seven
              obtain ⟨⟨pkb_0, pkb_1, pkb_2, pkb_3, pkb_4, pkb_5, pkb_6⟩, pkb_0f, pkb_1f, pkb_2f, pkb_3f, pkb_4f, pkb_5f, pkb_6f⟩ := kb.seven
              have hG := st7 v2 (w.heap.size + 1) (.int .i64 bI) (.int .i64 N) (.int .i64 S2) (.int .i64 B') (.int .i64 E') (.int .i64 0) (.int .i64 0)
              replace ka := ka.grown hG (some_ne (by omega)); replace bc := Below.off bc bc.size (by omega) hG; replace kb := kb.put7 (.int .i64 bI) (.int .i64 N) (.int .i64 S2) (.int .i64 B') (.int .i64 E') (.int .i64 0) (.int .i64 0); clear hG
              go_wp2
              go_roundw
              case rel => exact ⟨k + 1, _, _, _, _, _, by omega, by go_num, HP.out, HP2.out, ka, kb, bc⟩
              case measure => simp [intOf]; omega
            · have c1 := calm_bad HO.out ho1
              have c2 := calm_bad HO2.out ho2
              have f1 := fun W => vbad_any (calmV aI N S' A' F') t3 W
              have f2 := fun W => vbad_any (calmV bI N S' B' E') t3 W
              rw [c1.1] at f1; rw [c2.1] at f2
              have HP := Lib.hid c1.2; have HP2 := Lib.hid c2.2
              clear c1 c2 ho1 ho2
              unfold ResV MV.cells calmV at *
              dsimp only at *
              generalize outI S' (pw t3) = S2 at *
              generalize moreV F' = F2 at *
              generalize moreV E' = E2 at *
              have F1 := Lib.hid f1; have F2_ := Lib.hid f2; clear f1 f2
              obtain ⟨⟨pka_0, pka_1, pka_2, pka_3, pka_4, pka_5, pka_6⟩, pka_0f, pka_1f, pka_2f, pka_3f, pka_4f, pka_5f, pka_6f⟩ := ka.seven
              obtain ⟨⟨pkb_0, pkb_1, pkb_2, pkb_3, pkb_4, pkb_5, pkb_6⟩, pkb_0f, pkb_1f, pkb_2f, pkb_3f, pkb_4f, pkb_5f, pkb_6f⟩ := kb.seven
              go_wp2_with fail
              clear pka_0 pka_1 pka_2 pka_3 pka_4 pka_5 pka_6 pka_0f pka_1f pka_2f pka_3f pka_4f pka_5f pka_6f pkb_0 pkb_1 pkb_2 pkb_3 pkb_4 pkb_5 pkb_6 pkb_0f pkb_1f pkb_2f pkb_3f pkb_4f pkb_5f pkb_6f
              refine (F1.out _).mono ?_
              rintro e v1 ⟨rfl, hC⟩
              dsimp only
              replace ka := ka.on hC; replace kb := kb.on hC; replace bc := bc.trans (hC.mono bc.size); clear hC
              obtain ⟨⟨pka_0, pka_1, pka_2, pka_3, pka_4, pka_5, pka_6⟩, pka_0f, pka_1f, pka_2f, pka_3f, pka_4f, pka_5f, pka_6f⟩ := ka.seven
              obtain ⟨⟨pkb_0, pkb_1, pkb_2, pkb_3, pkb_4, pkb_5, pkb_6⟩, pkb_0f, pkb_1f, pkb_2f, pkb_3f, pkb_4f, pkb_5f, pkb_6f⟩ := kb.seven
              have hG := st7 v1 (w.heap.size) (.int .i64 aI) (.int .i64 N) (.int .i64 S2) (.int .i64 A') (.int .i64 F2) (.int .i64 0) (.int .i64 0)
              replace kb := kb.grown hG (some_ne (by omega)); replace bc := Below.off bc bc.size (by omega) hG; replace ka := ka.put7 (.int .i64 aI) (.int .i64 N) (.int .i64 S2) (.int .i64 A') (.int .i64 F2) (.int .i64 0) (.int .i64 0); clear hG
              go_wp2_with fail
              clear pka_0 pka_1 pka_2 pka_3 pka_4 pka_5 pka_6 pka_0f pka_1f pka_2f pka_3f pka_4f pka_5f pka_6f pkb_0 pkb_1 pkb_2 pkb_3 pkb_4 pkb_5 pkb_6 pkb_0f pkb_1f pkb_2f pkb_3f pkb_4f pkb_5f pkb_6f
              generalize ((((((v1.setCell ⟨w.heap.size, 0, none⟩ (.int .i64 aI)).setCell ⟨w.heap.size, 1, none⟩ (.int .i64 N)).setCell ⟨w.heap.size, 2, none⟩ (.int .i64 S2)).setCell ⟨w.heap.size, 3, none⟩ (.int .i64 A')).setCell ⟨w.heap.size, 4, none⟩ (.int .i64 F2)).setCell ⟨w.heap.size, 5, none⟩ (.int .i64 0)).setCell ⟨w.heap.size, 6, none⟩ (.int .i64 0) = u1 at *
              refine (F2_.out _).mono ?_
              rintro e v2 ⟨rfl, hC⟩
              dsimp only
              replace ka := ka.on hC; replace kb := kb.on hC; replace bc := bc.trans (hC.mono bc.size); clear hC
              obtain ⟨⟨pka_0, pka_1, pka_2, pka_3, pka_4, pka_5, pka_6⟩, pka_0f, pka_1f, pka_2f, pka_3f, pka_4f, pka_5f, pka_6f⟩ := ka.seven
              obtain ⟨⟨pkb_0, pkb_1, pkb_2, pkb_3, pkb_4, pkb_5, pkb_6⟩, pkb_0f, pkb_1f, pkb_2f, pkb_3f, pkb_4f, pkb_5f, pkb_6f⟩ := kb.seven
              have hG := st7 v2 (w.heap.size + 1) (.int .i64 bI) (.int .i64 N) (.int .i64 S2) (.int .i64 B') (.int .i64 E2) (.int .i64 0) (.int .i64 0)
              replace ka := ka.grown hG (some_ne (by omega)); replace bc := Below.off bc bc.size (by omega) hG; replace kb := kb.put7 (.int .i64 bI) (.int .i64 N) (.int .i64 S2) (.int .i64 B') (.int .i64 E2) (.int .i64 0) (.int .i64 0); clear hG
              go_wp2
              go_roundw
              case rel => exact ⟨k + 1, _, _, _, _, _, by omega, by go_num, HP.out, HP2.out, ka, kb, bc⟩
              case measure => simp [intOf]; omega
            · have c1 := calm_good HO.out ho1
              have c2 := calm_good HO2.out ho2
              have f1 := fun W => vgood_any (calmV aI N S' A' F') t3 0 W
              have f2 := fun W => vgood_any (calmV bI N S' B' E') t3 0 W
              rw [c1.1] at f1; rw [c2.1] at f2
              have HP := Lib.hid c1.2; have HP2 := Lib.hid c2.2
              clear c1 c2 ho1 ho2
              unfold ResV MV.cells calmV at *
              dsimp only at *
              generalize orI S' (pw t3) = S2 at *
              generalize moreV A' = A2 at *
              generalize moreV B' = B2 at *
              have F1 := Lib.hid f1; have F2_ := Lib.hid f2; clear f1 f2
              obtain ⟨⟨pka_0, pka_1, pka_2, pka_3, pka_4, pka_5, pka_6⟩, pka_0f, pka_1f, pka_2f, pka_3f, pka_4f, pka_5f, pka_6f⟩ := ka.seven
              obtain ⟨⟨pkb_0, pkb_1, pkb_2, pkb_3, pkb_4, pkb_5, pkb_6⟩, pkb_0f, pkb_1f, pkb_2f, pkb_3f, pkb_4f, pkb_5f, pkb_6f⟩ := kb.seven
              go_wp2_with fail
              clear pka_0 pka_1 pka_2 pka_3 pka_4 pka_5 pka_6 pka_0f pka_1f pka_2f pka_3f pka_4f pka_5f pka_6f pkb_0 pkb_1 pkb_2 pkb_3 pkb_4 pkb_5 pkb_6 pkb_0f pkb_1f pkb_2f pkb_3f pkb_4f pkb_5f pkb_6f
              refine (F1.out _).mono ?_
              rintro e v1 ⟨rfl, hC⟩
              dsimp only
              replace ka := ka.on hC; replace kb := kb.on hC; replace bc := bc.trans (hC.mono bc.size); clear hC
              obtain ⟨⟨pka_0, pka_1, pka_2, pka_3, pka_4, pka_5, pka_6⟩, pka_0f, pka_1f, pka_2f, pka_3f, pka_4f, pka_5f, pka_6f⟩ := ka.seven
              obtain ⟨⟨pkb_0, pkb_1, pkb_2, pkb_3, pkb_4, pkb_5, pkb_6⟩, pkb_0f, pkb_1f, pkb_2f, pkb_3f, pkb_4f, pkb_5f, pkb_6f⟩ := kb.seven
              have hG := st7 v1 (w.heap.size) (.int .i64 aI) (.int .i64 N) (.int .i64 S2) (.int .i64 A2) (.int .i64 F') (.int .i64 0) (.int .i64 0)
              replace kb := kb.grown hG (some_ne (by omega)); replace bc := Below.off bc bc.size (by omega) hG; replace ka := ka.put7 (.int .i64 aI) (.int .i64 N) (.int .i64 S2) (.int .i64 A2) (.int .i64 F') (.int .i64 0) (.int .i64 0); clear hG
              go_wp2_with fail
              clear pka_0 pka_1 pka_2 pka_3 pka_4 pka_5 pka_6 pka_0f pka_1f pka_2f pka_3f pka_4f pka_5f pka_6f pkb_0 pkb_1 pkb_2 pkb_3 pkb_4 pkb_5 pkb_6 pkb_0f pkb_1f pkb_2f pkb_3f pkb_4f pkb_5f pkb_6f
              generalize ((((((v1.setCell ⟨w.heap.size, 0, none⟩ (.int .i64 aI)).setCell ⟨w.heap.size, 1, none⟩ (.int .i64 N)).setCell ⟨w.heap.size, 2, none⟩ (.int .i64 S2)).setCell ⟨w.heap.size, 3, none⟩ (.int .i64 A2)).setCell ⟨w.heap.size, 4, none⟩ (.int .i64 F')).setCell ⟨w.heap.size, 5, none⟩ (.int .i64 0)).setCell ⟨w.heap.size, 6, none⟩ (.int .i64 0) = u1 at *
              refine (F2_.out _).mono ?_
              rintro e v2 ⟨rfl, hC⟩
              dsimp only
              replace ka := ka.on hC; replace kb := kb.on hC; replace bc := bc.trans (hC.mono bc.size); clear hC
              obtain ⟨⟨pka_0, pka_1, pka_2, pka_3, pka_4, pka_5, pka_6⟩, pka_0f, pka_1f, pka_2f, pka_3f, pka_4f, pka_5f, pka_6f⟩ := ka.seven
              obtain ⟨⟨pkb_0, pkb_1, pkb_2, pkb_3, pkb_4, pkb_5, pkb_6⟩, pkb_0f, pkb_1f, pkb_2f, pkb_3f, pkb_4f, pkb_5f, pkb_6f⟩ := kb.seven
              have hG := st7 v2 (w.heap.size + 1) (.int .i64 bI) (.int .i64 N) (.int .i64 S2) (.int .i64 B2) (.int .i64 E') (.int .i64 0) (.int .i64 0)
              replace ka := ka.grown hG (some_ne (by omega)); replace bc := Below.off bc bc.size (by omega) hG; replace kb := kb.put7 (.int .i64 bI) (.int .i64 N) (.int .i64 S2) (.int .i64 B2) (.int .i64 E') (.int .i64 0) (.int .i64 0); clear hG
              go_wp2
              go_roundw
              case rel => exact ⟨k + 1, _, _, _, _, _, by omega, by go_num, HP.out, HP2.out, ka, kb, bc⟩
              case measure => simp [intOf]; omega
          · obtain rfl : k = n := by omega
            go_wp2
            go_ret
            exact ⟨rfl, bc⟩
      have hgt : 40 < n := by omega
      obtain ⟨ka, kb, bc⟩ := bx2 w #[.int .i64 aI, .int .i64 aN, .int .i64 aS, .int .i64 aA, .int .i64 aF, .int .i64 aG, .int .i64 aR] #[.int .i64 bI, .int .i64 N, .int .i64 S, .int .i64 bA, .int .i64 bF, .int .i64 bG, .int .i64 bR] 23 23
      go_enter Try.func7, Try.ntmps7
      go_wp2_with fail
      generalize (w.alloc (.cells #[.int .i64 aI, .int .i64 aN, .int .i64 aS, .int .i64 aA, .int .i64 aF, .int .i64 aG, .int .i64 aR] 23)).alloc (.cells #[.int .i64 bI, .int .i64 N, .int .i64 S, .int .i64 bA, .int .i64 bF, .int .i64 bG, .int .i64 bR] 23) = u1 at *
      obtain ⟨⟨pka_0, pka_1, pka_2, pka_3, pka_4, pka_5, pka_6⟩, pka_0f, pka_1f, pka_2f, pka_3f, pka_4f, pka_5f, pka_6f⟩ := ka.seven
      obtain ⟨⟨pkb_0, pkb_1, pkb_2, pkb_3, pkb_4, pkb_5, pkb_6⟩, pkb_0f, pkb_1f, pkb_2f, pkb_3f, pkb_4f, pkb_5f, pkb_6f⟩ := kb.seven
      go_region
      clear pka_0 pka_1 pka_2 pka_3 pka_4 pka_5 pka_6 pka_0f pka_1f pka_2f pka_3f pka_4f pka_5f pka_6f pkb_0 pkb_1 pkb_2 pkb_3 pkb_4 pkb_5 pkb_6 pkb_0f pkb_1f pkb_2f pkb_3f pkb_4f pkb_5f pkb_6f
      have hG := st1_1 u1 (w.heap.size) (.int .i64 N)
      replace kb := kb.grown hG (some_ne (by omega)); replace bc := Below.off bc bc.size (by omega) hG; replace ka := ka.put1_1 (.int .i64 N); clear hG
      have hG := st1_2 (u1.setCell ⟨w.heap.size, 1, none⟩ (.int .i64 N)) (w.heap.size) (.int .i64 S)
      replace kb := kb.grown hG (some_ne (by omega)); replace bc := Below.off bc bc.size (by omega) hG; replace ka := ka.put1_2 (.int .i64 S); clear hG
      generalize (u1.setCell ⟨w.heap.size, 1, none⟩ (.int .i64 N)).setCell ⟨w.heap.size, 2, none⟩ (.int .i64 S) = us at *
      have hdr : Below us.heap.size us us.drew := (Below.refl _ _).drew
      replace ka := ka.on hdr; replace kb := kb.on hdr; replace bc := bc.trans (hdr.mono bc.size)
      clear hdr
      generalize us.drew = ut at *
      obtain ⟨⟨pka_0, pka_1, pka_2, pka_3, pka_4, pka_5, pka_6⟩, pka_0f, pka_1f, pka_2f, pka_3f, pka_4f, pka_5f, pka_6f⟩ := ka.seven
      obtain ⟨⟨pkb_0, pkb_1, pkb_2, pkb_3, pkb_4, pkb_5, pkb_6⟩, pkb_0f, pkb_1f, pkb_2f, pkb_3f, pkb_4f, pkb_5f, pkb_6f⟩ := kb.seven
      have hG := st1_5 ut (w.heap.size) (.int .i64 0)
      replace kb := kb.grown hG (some_ne (by omega)); replace bc := Below.off bc bc.size (by omega) hG; replace ka := ka.put1_5 (.int .i64 0); clear hG
      have hG := st1_5 (ut.setCell ⟨w.heap.size, 5, none⟩ (.int .i64 0)) (w.heap.size + 1) (.int .i64 0)
      replace ka := ka.grown hG (some_ne (by omega)); replace bc := Below.off bc bc.size (by omega) hG; replace kb := kb.put1_5 (.int .i64 0); clear hG
      have hG := st1_6 ((ut.setCell ⟨w.heap.size, 5, none⟩ (.int .i64 0)).setCell ⟨w.heap.size + 1, 5, none⟩ (.int .i64 0)) (w.heap.size) (.int .i64 0)
      replace kb := kb.grown hG (some_ne (by omega)); replace bc := Below.off bc bc.size (by omega) hG; replace ka := ka.put1_6 (.int .i64 0); clear hG
      have hG := st1_6 (((ut.setCell ⟨w.heap.size, 5, none⟩ (.int .i64 0)).setCell ⟨w.heap.size + 1, 5, none⟩ (.int .i64 0)).setCell ⟨w.heap.size, 6, none⟩ (.int .i64 0)) (w.heap.size + 1) (.int .i64 0)
      replace ka := ka.grown hG (some_ne (by omega)); replace bc := Below.off bc bc.size (by omega) hG; replace kb := kb.put1_6 (.int .i64 0); clear hG
      go_wp2_with fail
      clear pka_0 pka_1 pka_2 pka_3 pka_4 pka_5 pka_6 pka_0f pka_1f pka_2f pka_3f pka_4f pka_5f pka_6f pkb_0 pkb_1 pkb_2 pkb_3 pkb_4 pkb_5 pkb_6 pkb_0f pkb_1f pkb_2f pkb_3f pkb_4f pkb_5f pkb_6f
      generalize (((ut.setCell ⟨w.heap.size, 5, none⟩ (.int .i64 0)).setCell ⟨w.heap.size + 1, 5, none⟩ (.int .i64 0)).setCell ⟨w.heap.size, 6, none⟩ (.int .i64 0)).setCell ⟨w.heap.size + 1, 6, none⟩ (.int .i64 0) = u2 at *
      refine (HB.out _).mono ?_
      rintro e w1 ⟨rfl, hC⟩
      dsimp only
      replace ka := ka.on hC; replace kb := kb.on hC; replace bc := bc.trans (hC.mono bc.size); clear hC
      obtain ⟨⟨pka_0, pka_1, pka_2, pka_3, pka_4, pka_5, pka_6⟩, pka_0f, pka_1f, pka_2f, pka_3f, pka_4f, pka_5f, pka_6f⟩ := ka.seven
      go_wp2_with fail
      clear pka_0 pka_1 pka_2 pka_3 pka_4 pka_5 pka_6 pka_0f pka_1f pka_2f pka_3f pka_4f pka_5f pka_6f
      refine (HCA.out _).mono ?_
      rintro e w2 ⟨rfl, hC⟩
      dsimp only
      replace ka := ka.on hC; replace kb := kb.on hC; replace bc := bc.trans (hC.mono bc.size); clear hC
      obtain ⟨⟨pkb_0, pkb_1, pkb_2, pkb_3, pkb_4, pkb_5, pkb_6⟩, pkb_0f, pkb_1f, pkb_2f, pkb_3f, pkb_4f, pkb_5f, pkb_6f⟩ := kb.seven
      go_wp2_with fail
      clear pkb_0 pkb_1 pkb_2 pkb_3 pkb_4 pkb_5 pkb_6 pkb_0f pkb_1f pkb_2f pkb_3f pkb_4f pkb_5f pkb_6f
      refine (HCB.out _).mono ?_
      rintro e w3 ⟨rfl, hC⟩
      dsimp only
      replace ka := ka.on hC; replace kb := kb.on hC; replace bc := bc.trans (hC.mono bc.size); clear hC
      clear HB HCA HCB
      go_wp2_with fail
      go_loopw [43] (fun i wr => ∃ (k : Nat) (S' A' F' B' E' : Int), k ≤ 40 ∧ i = .int .i64 k ∧ okV ⟨aI, N, S', A', F', 0, 0⟩ ∧ okV ⟨bI, N, S', B', E', 0, 0⟩ ∧ Blk wr w.heap.size 23 (cM aI N S' A' F' 0 0) ∧ Blk wr (w.heap.size + 1) 23 (cM bI N S' B' E' 0 0) ∧ Below w.heap.size w wr)
        (fun i _ => 40 - (intOf i).toNat)
      case atStart => exact ⟨0, S, aA, aF, bA, bF, by omega, rfl, HO.out, HO2.out, ka, kb, bc⟩
      case round =>
        clear ka kb bc HO HO2
        obtain ⟨k, S', A', F', B', E', hk, rfl, ho1, ho2, ka, kb, bc⟩ := hrel
        by_cases hlt : k < 40
        · obtain ⟨b, off, rfl, _, hcell⟩ := (HA.out.below bc).at_ (k := k) (by have := HN.out; omega)
          have hki : (k : Int) < 40 := by omega
          obtain ⟨oq, hq3, hq⟩ := rem3 (bs[k]?.getD 0)
          have hN := ok_node ho1
          dsimp only at hN
          obtain ⟨t1, t2, t3, e1, e2, e3, r1, r2, r3⟩ := slot_of k N x (by omega)
          have hn0 : (N == 0) = false := by simp; omega
          have hb1 : 4 ≤ N := hN.1
          have hb2 : N ≤ 8 := hN.2.1
          have hn1 : N ≠ 0 := by omega
          obtain ⟨ob, hob⟩ : ∃ ob : Int, ob = ((bs[k]?.getD 0).toNat : Int) := ⟨_, rfl⟩
          rw [← hob] at hcell hq
          clear hob hN
          have HO := Lib.hid ho1; have HO2 := Lib.hid ho2; clear ho1 ho2
          obtain ⟨⟨pka_0, pka_1, pka_2, pka_3, pka_4, pka_5, pka_6⟩, pka_0f, pka_1f, pka_2f, pka_3f, pka_4f, pka_5f, pka_6f⟩ := ka.seven
          obtain ⟨⟨pkb_0, pkb_1, pkb_2, pkb_3, pkb_4, pkb_5, pkb_6⟩, pkb_0f, pkb_1f, pkb_2f, pkb_3f, pkb_4f, pkb_5f, pkb_6f⟩ := kb.seven
          go_wp2
          go_quiet (fail)
          clear pka_0 pka_1 pka_2 pka_3 pka_4 pka_5 pka_6 pka_0f pka_1f pka_2f pka_3f pka_4f pka_5f pka_6f pkb_0 pkb_1 pkb_2 pkb_3 pkb_4 pkb_5 pkb_6 pkb_0f pkb_1f pkb_2f pkb_3f pkb_4f pkb_5f pkb_6f
          have hd := below_drewN (Below.refl wr.heap.size wr) nq
          replace ka := ka.on hd; replace kb := kb.on hd; replace bc := bc.trans (hd.mono bc.size); clear hd
          generalize wr.drewN nq = wd at *
          clear hcell e1 e2 e3 r1 r2 hb1 hb2
          by_cases ha : t3 = aI
          · subst ha
            obtain ⟨⟨pka_0, pka_1, pka_2, pka_3, pka_4, pka_5, pka_6⟩, pka_0f, pka_1f, pka_2f, pka_3f, pka_4f, pka_5f, pka_6f⟩ := ka.seven
            obtain ⟨⟨pkb_0, pkb_1, pkb_2, pkb_3, pkb_4, pkb_5, pkb_6⟩, pkb_0f, pkb_1f, pkb_2f, pkb_3f, pkb_4f, pkb_5f, pkb_6f⟩ := kb.seven
            go_wp2
            have HP := HO; have HP2 := HO2
            go_roundw
            case rel => exact ⟨k + 1, _, _, _, _, _, by omega, by go_num, HP.out, HP2.out, ka, kb, bc⟩
            case measure => simp [intOf]; omega
          have da : (t3 == aI) = false := by simpa using ha
          by_cases hbb : t3 = bI
          · subst hbb
            obtain ⟨⟨pka_0, pka_1, pka_2, pka_3, pka_4, pka_5, pka_6⟩, pka_0f, pka_1f, pka_2f, pka_3f, pka_4f, pka_5f, pka_6f⟩ := ka.seven
            obtain ⟨⟨pkb_0, pkb_1, pkb_2, pkb_3, pkb_4, pkb_5, pkb_6⟩, pkb_0f, pkb_1f, pkb_2f, pkb_3f, pkb_4f, pkb_5f, pkb_6f⟩ := kb.seven
            go_wp2
            have HP := HO; have HP2 := HO2
            go_roundw
            case rel => exact ⟨k + 1, _, _, _, _, _, by omega, by go_num, HP.out, HP2.out, ka, kb, bc⟩
            case measure => simp [intOf]; omega
          have db : (t3 == bI) = false := by simpa using hbb
          have ho1 : othV (calmV aI N S' A' F') t3 := ⟨r3, ha⟩
          have ho2 : othV (calmV bI N S' B' E') t3 := ⟨r3, hbb⟩
          obtain rfl | rfl | rfl : oq = 0 ∨ oq = 1 ∨ oq = 2 := by omega
          · have c1 := calm_null HO.out ho1
            have c2 := calm_null HO2.out ho2
            have f1 := fun W => vnull_any (calmV aI N S' A' F') t3 W
            have f2 := fun W => vnull_any (calmV bI N S' B' E') t3 W
            rw [c1.1] at f1; rw [c2.1] at f2
            have HP := Lib.hid c1.2; have HP2 := Lib.hid c2.2
            clear c1 c2 ho1 ho2
            unfold ResV MV.cells calmV at *
            dsimp only at *
            generalize outI S' (pw t3) = S2 at *
            have F1 := Lib.hid f1; have F2_ := Lib.hid f2; clear f1 f2
            obtain ⟨⟨pka_0, pka_1, pka_2, pka_3, pka_4, pka_5, pka_6⟩, pka_0f, pka_1f, pka_2f, pka_3f, pka_4f, pka_5f, pka_6f⟩ := ka.seven
            obtain ⟨⟨pkb_0, pkb_1, pkb_2, pkb_3, pkb_4, pkb_5, pkb_6⟩, pkb_0f, pkb_1f, pkb_2f, pkb_3f, pkb_4f, pkb_5f, pkb_6f⟩ := kb.seven
            go_wp2_with fail
            clear pka_0 pka_1 pka_2 pka_3 pka_4 pka_5 pka_6 pka_0f pka_1f pka_2f pka_3f pka_4f pka_5f pka_6f pkb_0 pkb_1 pkb_2 pkb_3 pkb_4 pkb_5 pkb_6 pkb_0f pkb_1f pkb_2f pkb_3f pkb_4f pkb_5f pkb_6f
            refine (F1.out _).mono ?_
            rintro e v1 ⟨rfl, hC⟩
            dsimp only
            replace ka := ka.on hC; replace kb := kb.on hC; replace bc := bc.trans (hC.mono bc.size); clear hC
            obtain ⟨⟨pka_0, pka_1, pka_2, pka_3, pka_4, pka_5, pka_6⟩, pka_0f, pka_1f, pka_2f, pka_3f, pka_4f, pka_5f, pka_6f⟩ := ka.seven
            obtain ⟨⟨pkb_0, pkb_1, pkb_2, pkb_3, pkb_4, pkb_5, pkb_6⟩, pkb_0f, pkb_1f, pkb_2f, pkb_3f, pkb_4f, pkb_5f, pkb_6f⟩ := kb.seven
            have hG := st7 v1 (w.heap.size) (.int .i64 aI) (.int .i64 N) (.int .i64 S2) (.int .i64 A') (.int .i64 F') (.int .i64 0) (.int .i64 0)
            replace kb := kb.grown hG (some_ne (by omega)); replace bc := Below.off bc bc.size (by omega) hG; replace ka := ka.put7 (.int .i64 aI) (.int .i64 N) (.int .i64 S2) (.int .i64 A') (.int .i64 F') (.int .i64 0) (.int .i64 0); clear hG
            go_wp2_with fail
            clear pka_0 pka_1 pka_2 pka_3 pka_4 pka_5 pka_6 pka_0f pka_1f pka_2f pka_3f pka_4f pka_5f pka_6f pkb_0 pkb_1 pkb_2 pkb_3 pkb_4 pkb_5 pkb_6 pkb_0f pkb_1f pkb_2f pkb_3f pkb_4f pkb_5f pkb_6f
            generalize ((((((v1.setCell ⟨w.heap.size, 0, none⟩ (.int .i64 aI)).setCell ⟨w.heap.size, 1, none⟩ (.int .i64 N)).setCell ⟨w.heap.size, 2, none⟩ (.int .i64 S2)).setCell ⟨w.heap.size, 3, none⟩ (.int .i64 A')).setCell ⟨w.heap.size, 4, none⟩ (.int .i64 F')).setCell ⟨w.heap.size, 5, none⟩ (.int .i64 0)).setCell ⟨w.heap.size, 6, none⟩ (.int .i64 0) = u1 at *
            refine (F2_.out _).mono ?_
            rintro e v2 ⟨rfl, hC⟩
            dsimp only
            replace ka := ka.on hC; replace kb := kb.on hC; replace bc := bc.trans (hC.mono bc.size); clear hC
            obtain ⟨⟨pka_0, pka_1, pka_2, pka_3, pka_4, pka_5, pka_6⟩, pka_0f, pka_1f, pka_2f, pka_3f, pka_4f, pka_5f, pka_6f⟩ := ka.seven
            obtain ⟨⟨pkb_0, pkb_1, pkb_2, pkb_3, pkb_4, pkb_5, pkb_6⟩, pkb_0f, pkb_1f, pkb_2f, pkb_3f, pkb_4f, pkb_5f, pkb_6f⟩ := kb.seven
            have hG := st7 v2 (w.heap.size + 1) (.int .i64 bI) (.int .i64 N) (.int .i64 S2) (.int .i64 B') (.int .i64 E') (.int .i64 0) (.int .i64 0)
            replace ka := ka.grown hG (some_ne (by omega)); replace bc := Below.off bc bc.size (by omega) hG; replace kb := kb.put7 (.int .i64 bI) (.int .i64 N) (.int .i64 S2) (.int .i64 B') (.int .i64 E') (.int .i64 0) (.int .i64 0); clear hG
            go_wp2
            go_roundw
            case rel => exact ⟨k + 1, _, _, _, _, _, by omega, by go_num, HP.out, HP2.out, ka, kb, bc⟩
            case measure => simp [intOf]; omega
          · have c1 := calm_bad HO.out ho1
            have c2 := calm_bad HO2.out ho2
            have f1 := fun W => vbad_any (calmV aI N S' A' F') t3 W
            have f2 := fun W => vbad_any (calmV bI N S' B' E') t3 W
            rw [c1.1] at f1; rw [c2.1] at f2
            have HP := Lib.hid c1.2; have HP2 := Lib.hid c2.2
            clear c1 c2 ho1 ho2
            unfold ResV MV.cells calmV at *
            dsimp only at *
            generalize outI S' (pw t3) = S2 at *
            generalize moreV F' = F2 at *
            generalize moreV E' = E2 at *
            have F1 := Lib.hid f1; have F2_ := Lib.hid f2; clear f1 f2
            obtain ⟨⟨pka_0, pka_1, pka_2, pka_3, pka_4, pka_5, pka_6⟩, pka_0f, pka_1f, pka_2f, pka_3f, pka_4f, pka_5f, pka_6f⟩ := ka.seven
            obtain ⟨⟨pkb_0, pkb_1, pkb_2, pkb_3, pkb_4, pkb_5, pkb_6⟩, pkb_0f, pkb_1f, pkb_2f, pkb_3f, pkb_4f, pkb_5f, pkb_6f⟩ := kb.seven
            go_wp2_with fail
            clear pka_0 pka_1 pka_2 pka_3 pka_4 pka_5 pka_6 pka_0f pka_1f pka_2f pka_3f pka_4f pka_5f pka_6f pkb_0 pkb_1 pkb_2 pkb_3 pkb_4 pkb_5 pkb_6 pkb_0f pkb_1f pkb_2f pkb_3f pkb_4f pkb_5f pkb_6f
            refine (F1.out _).mono ?_
            rintro e v1 ⟨rfl, hC⟩
            dsimp only
            replace ka := ka.on hC; replace kb := kb.on hC; replace bc := bc.trans (hC.mono bc.size); clear hC
            obtain ⟨⟨pka_0, pka_1, pka_2, pka_3, pka_4, pka_5, pka_6⟩, pka_0f, pka_1f, pka_2f, pka_3f, pka_4f, pka_5f, pka_6f⟩ := ka.seven
            obtain ⟨⟨pkb_0, pkb_1, pkb_2, pkb_3, pkb_4, pkb_5, pkb_6⟩, pkb_0f, pkb_1f, pkb_2f, pkb_3f, pkb_4f, pkb_5f, pkb_6f⟩ := kb.seven
            have hG := st7 v1 (w.heap.size) (.int .i64 aI) (.int .i64 N) (.int .i64 S2) (.int .i64 A') (.int .i64 F2) (.int .i64 0) (.int .i64 0)
            replace kb := kb.grown hG (some_ne (by omega)); replace bc := Below.off bc bc.size (by omega) hG; replace ka := ka.put7 (.int .i64 aI) (.int .i64 N) (.int .i64 S2) (.int .i64 A') (.int .i64 F2) (.int .i64 0) (.int .i64 0); clear hG
            go_wp2_with fail
            clear pka_0 pka_1 pka_2 pka_3 pka_4 pka_5 pka_6 pka_0f pka_1f pka_2f pka_3f pka_4f pka_5f pka_6f pkb_0 pkb_1 pkb_2 pkb_3 pkb_4 pkb_5 pkb_6 pkb_0f pkb_1f pkb_2f pkb_3f pkb_4f pkb_5f pkb_6f
            generalize ((((((v1.setCell ⟨w.heap.size, 0, none⟩ (.int .i64 aI)).setCell ⟨w.heap.size, 1, none⟩ (.int .i64 N)).setCell ⟨w.heap.size, 2, none⟩ (.int .i64 S2)).setCell ⟨w.heap.size, 3, none⟩ (.int .i64 A')).setCell ⟨w.heap.size, 4, none⟩ (.int .i64 F2)).setCell ⟨w.heap.size, 5, none⟩ (.int .i64 0)).setCell ⟨w.heap.size, 6, none⟩ (.int .i64 0) = u1 at *
            refine (F2_.out _).mono ?_
            rintro e v2 ⟨rfl, hC⟩
            dsimp only
            replace ka := ka.on hC; replace kb := kb.on hC; replace bc := bc.trans (hC.mono bc.size); clear hC
            obtain ⟨⟨pka_0, pka_1, pka_2, pka_3, pka_4, pka_5, pka_6⟩, pka_0f, pka_1f, pka_2f, pka_3f, pka_4f, pka_5f, pka_6f⟩ := ka.seven
            obtain ⟨⟨pkb_0, pkb_1, pkb_2, pkb_3, pkb_4, pkb_5, pkb_6⟩, pkb_0f, pkb_1f, pkb_2f, pkb_3f, pkb_4f, pkb_5f, pkb_6f⟩ := kb.seven
            have hG := st7 v2 (w.heap.size + 1) (.int .i64 bI) (.int .i64 N) (.int .i64 S2) (.int .i64 B') (.int .i64 E2) (.int .i64 0) (.int .i64 0)
            replace ka := ka.grown hG (some_ne (by omega)); replace bc := Below.off bc bc.size (by omega) hG; replace kb := kb.put7 (.int .i64 bI) (.int .i64 N) (.int .i64 S2) (.int .i64 B') (.int .i64 E2) (.int .i64 0) (.int .i64 0); clear hG
            go_wp2
            go_roundw
            case rel => exact ⟨k + 1, _, _, _, _, _, by omega, by go_num, HP.out, HP2.out, ka, kb, bc⟩
            case measure => simp [intOf]; omega
          · have c1 := calm_good HO.out ho1
            have c2 := calm_good HO2.out ho2
            have f1 := fun W => vgood_any (calmV aI N S' A' F') t3 0 W
            have f2 := fun W => vgood_any (calmV bI N S' B' E') t3 0 W
            rw [c1.1] at f1; rw [c2.1] at f2
            have HP := Lib.hid c1.2; have HP2 := Lib.hid c2.2
            clear c1 c2 ho1 ho2
            unfold ResV MV.cells calmV at *
            dsimp only at *
            generalize orI S' (pw t3) = S2 at *
            generalize moreV A' = A2 at *
            generalize moreV B' = B2 at *
            have F1 := Lib.hid f1; have F2_ := Lib.hid f2; clear f1 f2
            obtain ⟨⟨pka_0, pka_1, pka_2, pka_3, pka_4, pka_5, pka_6⟩, pka_0f, pka_1f, pka_2f, pka_3f, pka_4f, pka_5f, pka_6f⟩ := ka.seven
            obtain ⟨⟨pkb_0, pkb_1, pkb_2, pkb_3, pkb_4, pkb_5, pkb_6⟩, pkb_0f, pkb_1f, pkb_2f, pkb_3f, pkb_4f, pkb_5f, pkb_6f⟩ := kb.seven
            go_wp2_with fail
            clear pka_0 pka_1 pka_2 pka_3 pka_4 pka_5 pka_6 pka_0f pka_1f pka_2f pka_3f pka_4f pka_5f pka_6f pkb_0 pkb_1 pkb_2 pkb_3 pkb_4 pkb_5 pkb_6 pkb_0f pkb_1f pkb_2f pkb_3f pkb_4f pkb_5f pkb_6f
            refine (F1.out _).mono ?_
            rintro e v1 ⟨rfl, hC⟩
            dsimp only
            replace ka := ka.on hC; replace kb := kb.on hC; replace bc := bc.trans (hC.mono bc.size); clear hC
            obtain ⟨⟨pka_0, pka_1, pka_2, pka_3, pka_4, pka_5, pka_6⟩, pka_0f, pka_1f, pka_2f, pka_3f, pka_4f, pka_5f, pka_6f⟩ := ka.seven
            obtain ⟨⟨pkb_0, pkb_1, pkb_2, pkb_3, pkb_4, pkb_5, pkb_6⟩, pkb_0f, pkb_1f, pkb_2f, pkb_3f, pkb_4f, pkb_5f, pkb_6f⟩ := kb.seven
            have hG := st7 v1 (w.heap.size) (.int .i64 aI) (.int .i64 N) (.int .i64 S2) (.int .i64 A2) (.int .i64 F') (.int .i64 0) (.int .i64 0)
            replace kb := kb.grown hG (some_ne (by omega)); replace bc := Below.off bc bc.size (by omega) hG; replace ka := ka.put7 (.int .i64 aI) (.int .i64 N) (.int .i64 S2) (.int .i64 A2) (.int .i64 F') (.int .i64 0) (.int .i64 0); clear hG
            go_wp2_with fail
            clear pka_0 pka_1 pka_2 pka_3 pka_4 pka_5 pka_6 pka_0f pka_1f pka_2f pka_3f pka_4f pka_5f pka_6f pkb_0 pkb_1 pkb_2 pkb_3 pkb_4 pkb_5 pkb_6 pkb_0f pkb_1f pkb_2f pkb_3f pkb_4f pkb_5f pkb_6f
            generalize ((((((v1.setCell ⟨w.heap.size, 0, none⟩ (.int .i64 aI)).setCell ⟨w.heap.size, 1, none⟩ (.int .i64 N)).setCell ⟨w.heap.size, 2, none⟩ (.int .i64 S2)).setCell ⟨w.heap.size, 3, none⟩ (.int .i64 A2)).setCell ⟨w.heap.size, 4, none⟩ (.int .i64 F')).setCell ⟨w.heap.size, 5, none⟩ (.int .i64 0)).setCell ⟨w.heap.size, 6, none⟩ (.int .i64 0) = u1 at *
            refine (F2_.out _).mono ?_
            rintro e v2 ⟨rfl, hC⟩
            dsimp only
            replace ka := ka.on hC; replace kb := kb.on hC; replace bc := bc.trans (hC.mono bc.size); clear hC
            obtain ⟨⟨pka_0, pka_1, pka_2, pka_3, pka_4, pka_5, pka_6⟩, pka_0f, pka_1f, pka_2f, pka_3f, pka_4f, pka_5f, pka_6f⟩ := ka.seven
            obtain ⟨⟨pkb_0, pkb_1, pkb_2, pkb_3, pkb_4, pkb_5, pkb_6⟩, pkb_0f, pkb_1f, pkb_2f, pkb_3f, pkb_4f, pkb_5f, pkb_6f⟩ := kb.seven
            have hG := st7 v2 (w.heap.size + 1) (.int .i64 bI) (.int .i64 N) (.int .i64 S2) (.int .i64 B2) (.int .i64 E') (.int .i64 0) (.int .i64 0)
            replace ka := ka.grown hG (some_ne (by omega)); replace bc := Below.off bc bc.size (by omega) hG; replace kb := kb.put7 (.int .i64 bI) (.int .i64 N) (.int .i64 S2) (.int .i64 B2) (.int .i64 E') (.int .i64 0) (.int .i64 0); clear hG
            go_wp2
            go_roundw
            case rel => exact ⟨k + 1, _, _, _, _, _, by omega, by go_num, HP.out, HP2.out, ka, kb, bc⟩
            case measure => simp [intOf]; omega
        · obtain rfl : k = 40 := by omega
          go_wp2
          go_ret
          exact ⟨rfl, bc⟩
    · rw [chkV_no hok2] at hcb
      clear hok hok2
      have HCA := Lib.hid hca; have HCB := Lib.hid hcb; clear hca hcb
      obtain ⟨ka, kb, bc⟩ := bx2 w #[.int .i64 aI, .int .i64 aN, .int .i64 aS, .int .i64 aA, .int .i64 aF, .int .i64 aG, .int .i64 aR] #[.int .i64 bI, .int .i64 N, .int .i64 S, .int .i64 bA, .int .i64 bF, .int .i64 bG, .int .i64 bR] 23 23
      go_enter Try.func7, Try.ntmps7
      go_wp2_with fail
      generalize (w.alloc (.cells #[.int .i64 aI, .int .i64 aN, .int .i64 aS, .int .i64 aA, .int .i64 aF, .int .i64 aG, .int .i64 aR] 23)).alloc (.cells #[.int .i64 bI, .int .i64 N, .int .i64 S, .int .i64 bA, .int .i64 bF, .int .i64 bG, .int .i64 bR] 23) = u1 at *
      obtain ⟨⟨pka_0, pka_1, pka_2, pka_3, pka_4, pka_5, pka_6⟩, pka_0f, pka_1f, pka_2f, pka_3f, pka_4f, pka_5f, pka_6f⟩ := ka.seven
      obtain ⟨⟨pkb_0, pkb_1, pkb_2, pkb_3, pkb_4, pkb_5, pkb_6⟩, pkb_0f, pkb_1f, pkb_2f, pkb_3f, pkb_4f, pkb_5f, pkb_6f⟩ := kb.seven
      go_region
      clear pka_0 pka_1 pka_2 pka_3 pka_4 pka_5 pka_6 pka_0f pka_1f pka_2f pka_3f pka_4f pka_5f pka_6f pkb_0 pkb_1 pkb_2 pkb_3 pkb_4 pkb_5 pkb_6 pkb_0f pkb_1f pkb_2f pkb_3f pkb_4f pkb_5f pkb_6f
      have hG := st1_1 u1 (w.heap.size) (.int .i64 N)
      replace kb := kb.grown hG (some_ne (by omega)); replace bc := Below.off bc bc.size (by omega) hG; replace ka := ka.put1_1 (.int .i64 N); clear hG
      have hG := st1_2 (u1.setCell ⟨w.heap.size, 1, none⟩ (.int .i64 N)) (w.heap.size) (.int .i64 S)
      replace kb := kb.grown hG (some_ne (by omega)); replace bc := Below.off bc bc.size (by omega) hG; replace ka := ka.put1_2 (.int .i64 S); clear hG
      generalize (u1.setCell ⟨w.heap.size, 1, none⟩ (.int .i64 N)).setCell ⟨w.heap.size, 2, none⟩ (.int .i64 S) = us at *
      have hdr : Below us.heap.size us us.drew := (Below.refl _ _).drew
      replace ka := ka.on hdr; replace kb := kb.on hdr; replace bc := bc.trans (hdr.mono bc.size)
      clear hdr
      generalize us.drew = ut at *
      obtain ⟨⟨pka_0, pka_1, pka_2, pka_3, pka_4, pka_5, pka_6⟩, pka_0f, pka_1f, pka_2f, pka_3f, pka_4f, pka_5f, pka_6f⟩ := ka.seven
      obtain ⟨⟨pkb_0, pkb_1, pkb_2, pkb_3, pkb_4, pkb_5, pkb_6⟩, pkb_0f, pkb_1f, pkb_2f, pkb_3f, pkb_4f, pkb_5f, pkb_6f⟩ := kb.seven
      have hG := st1_5 ut (w.heap.size) (.int .i64 0)
      replace kb := kb.grown hG (some_ne (by omega)); replace bc := Below.off bc bc.size (by omega) hG; replace ka := ka.put1_5 (.int .i64 0); clear hG
      have hG := st1_5 (ut.setCell ⟨w.heap.size, 5, none⟩ (.int .i64 0)) (w.heap.size + 1) (.int .i64 0)
      replace ka := ka.grown hG (some_ne (by omega)); replace bc := Below.off bc bc.size (by omega) hG; replace kb := kb.put1_5 (.int .i64 0); clear hG
      have hG := st1_6 ((ut.setCell ⟨w.heap.size, 5, none⟩ (.int .i64 0)).setCell ⟨w.heap.size + 1, 5, none⟩ (.int .i64 0)) (w.heap.size) (.int .i64 0)
      replace kb := kb.grown hG (some_ne (by omega)); replace bc := Below.off bc bc.size (by omega) hG; replace ka := ka.put1_6 (.int .i64 0); clear hG
      have hG := st1_6 (((ut.setCell ⟨w.heap.size, 5, none⟩ (.int .i64 0)).setCell ⟨w.heap.size + 1, 5, none⟩ (.int .i64 0)).setCell ⟨w.heap.size, 6, none⟩ (.int .i64 0)) (w.heap.size + 1) (.int .i64 0)
      replace ka := ka.grown hG (some_ne (by omega)); replace bc := Below.off bc bc.size (by omega) hG; replace kb := kb.put1_6 (.int .i64 0); clear hG
      go_wp2_with fail
      clear pka_0 pka_1 pka_2 pka_3 pka_4 pka_5 pka_6 pka_0f pka_1f pka_2f pka_3f pka_4f pka_5f pka_6f pkb_0 pkb_1 pkb_2 pkb_3 pkb_4 pkb_5 pkb_6 pkb_0f pkb_1f pkb_2f pkb_3f pkb_4f pkb_5f pkb_6f
      generalize (((ut.setCell ⟨w.heap.size, 5, none⟩ (.int .i64 0)).setCell ⟨w.heap.size + 1, 5, none⟩ (.int .i64 0)).setCell ⟨w.heap.size, 6, none⟩ (.int .i64 0)).setCell ⟨w.heap.size + 1, 6, none⟩ (.int .i64 0) = u2 at *
      refine (HB.out _).mono ?_
      rintro e w1 ⟨rfl, hC⟩
      dsimp only
      replace ka := ka.on hC; replace kb := kb.on hC; replace bc := bc.trans (hC.mono bc.size); clear hC
      obtain ⟨⟨pka_0, pka_1, pka_2, pka_3, pka_4, pka_5, pka_6⟩, pka_0f, pka_1f, pka_2f, pka_3f, pka_4f, pka_5f, pka_6f⟩ := ka.seven
      go_wp2_with fail
      clear pka_0 pka_1 pka_2 pka_3 pka_4 pka_5 pka_6 pka_0f pka_1f pka_2f pka_3f pka_4f pka_5f pka_6f
      refine (HCA.out _).mono ?_
      rintro e w2 ⟨rfl, hC⟩
      dsimp only
      replace ka := ka.on hC; replace kb := kb.on hC; replace bc := bc.trans (hC.mono bc.size); clear hC
      obtain ⟨⟨pkb_0, pkb_1, pkb_2, pkb_3, pkb_4, pkb_5, pkb_6⟩, pkb_0f, pkb_1f, pkb_2f, pkb_3f, pkb_4f, pkb_5f, pkb_6f⟩ := kb.seven
      go_wp2_with fail
      clear pkb_0 pkb_1 pkb_2 pkb_3 pkb_4 pkb_5 pkb_6 pkb_0f pkb_1f pkb_2f pkb_3f pkb_4f pkb_5f pkb_6f
      refine (HCB.out _).mono ?_
      rintro e w3 ⟨rfl, hC⟩
      dsimp only
      replace ka := ka.on hC; replace kb := kb.on hC; replace bc := bc.trans (hC.mono bc.size); clear hC
      go_wp2_with fail
      refine (HB.out _).mono ?_
      rintro e w4 ⟨rfl, hC⟩
      dsimp only
      replace ka := ka.on hC; replace kb := kb.on hC; replace bc := bc.trans (hC.mono bc.size); clear hC
      go_wp2
      go_ret
      exact ⟨rfl, bc⟩
  · rw [chkV_no hok] at hca
    clear hok hcb
    have HCA := Lib.hid hca; clear hca
    obtain ⟨ka, kb, bc⟩ := bx2 w #[.int .i64 aI, .int .i64 aN, .int .i64 aS, .int .i64 aA, .int .i64 aF, .int .i64 aG, .int .i64 aR] #[.int .i64 bI, .int .i64 N, .int .i64 S, .int .i64 bA, .int .i64 bF, .int .i64 bG, .int .i64 bR] 23 23
    go_enter Try.func7, Try.ntmps7
    go_wp2_with fail
    generalize (w.alloc (.cells #[.int .i64 aI, .int .i64 aN, .int .i64 aS, .int .i64 aA, .int .i64 aF, .int .i64 aG, .int .i64 aR] 23)).alloc (.cells #[.int .i64 bI, .int .i64 N, .int .i64 S, .int .i64 bA, .int .i64 bF, .int .i64 bG, .int .i64 bR] 23) = u1 at *
    obtain ⟨⟨pka_0, pka_1, pka_2, pka_3, pka_4, pka_5, pka_6⟩, pka_0f, pka_1f, pka_2f, pka_3f, pka_4f, pka_5f, pka_6f⟩ := ka.seven
    obtain ⟨⟨pkb_0, pkb_1, pkb_2, pkb_3, pkb_4, pkb_5, pkb_6⟩, pkb_0f, pkb_1f, pkb_2f, pkb_3f, pkb_4f, pkb_5f, pkb_6f⟩ := kb.seven
    go_region
    clear pka_0 pka_1 pka_2 pka_3 pka_4 pka_5 pka_6 pka_0f pka_1f pka_2f pka_3f pka_4f pka_5f pka_6f pkb_0 pkb_1 pkb_2 pkb_3 pkb_4 pkb_5 pkb_6 pkb_0f pkb_1f pkb_2f pkb_3f pkb_4f pkb_5f pkb_6f
    have hG := st1_1 u1 (w.heap.size) (.int .i64 N)
    replace kb := kb.grown hG (some_ne (by omega)); replace bc := Below.off bc bc.size (by omega) hG; replace ka := ka.put1_1 (.int .i64 N); clear hG
    have hG := st1_2 (u1.setCell ⟨w.heap.size, 1, none⟩ (.int .i64 N)) (w.heap.size) (.int .i64 S)
    replace kb := kb.grown hG (some_ne (by omega)); replace bc := Below.off bc bc.size (by omega) hG; replace ka := ka.put1_2 (.int .i64 S); clear hG
    generalize (u1.setCell ⟨w.heap.size, 1, none⟩ (.int .i64 N)).setCell ⟨w.heap.size, 2, none⟩ (.int .i64 S) = us at *
    have hdr : Below us.heap.size us us.drew := (Below.refl _ _).drew
    replace ka := ka.on hdr; replace kb := kb.on hdr; replace bc := bc.trans (hdr.mono bc.size)
    clear hdr
    generalize us.drew = ut at *
    obtain ⟨⟨pka_0, pka_1, pka_2, pka_3, pka_4, pka_5, pka_6⟩, pka_0f, pka_1f, pka_2f, pka_3f, pka_4f, pka_5f, pka_6f⟩ := ka.seven
    obtain ⟨⟨pkb_0, pkb_1, pkb_2, pkb_3, pkb_4, pkb_5, pkb_6⟩, pkb_0f, pkb_1f, pkb_2f, pkb_3f, pkb_4f, pkb_5f, pkb_6f⟩ := kb.seven
    have hG := st1_5 ut (w.heap.size) (.int .i64 0)
    replace kb := kb.grown hG (some_ne (by omega)); replace bc := Below.off bc bc.size (by omega) hG; replace ka := ka.put1_5 (.int .i64 0); clear hG
    have hG := st1_5 (ut.setCell ⟨w.heap.size, 5, none⟩ (.int .i64 0)) (w.heap.size + 1) (.int .i64 0)
    replace ka := ka.grown hG (some_ne (by omega)); replace bc := Below.off bc bc.size (by omega) hG; replace kb := kb.put1_5 (.int .i64 0); clear hG
    have hG := st1_6 ((ut.setCell ⟨w.heap.size, 5, none⟩ (.int .i64 0)).setCell ⟨w.heap.size + 1, 5, none⟩ (.int .i64 0)) (w.heap.size) (.int .i64 0)
    replace kb := kb.grown hG (some_ne (by omega)); replace bc := Below.off bc bc.size (by omega) hG; replace ka := ka.put1_6 (.int .i64 0); clear hG
    have hG := st1_6 (((ut.setCell ⟨w.heap.size, 5, none⟩ (.int .i64 0)).setCell ⟨w.heap.size + 1, 5, none⟩ (.int .i64 0)).setCell ⟨w.heap.size, 6, none⟩ (.int .i64 0)) (w.heap.size + 1) (.int .i64 0)
    replace ka := ka.grown hG (some_ne (by omega)); replace bc := Below.off bc bc.size (by omega) hG; replace kb := kb.put1_6 (.int .i64 0); clear hG
    go_wp2_with fail
    clear pka_0 pka_1 pka_2 pka_3 pka_4 pka_5 pka_6 pka_0f pka_1f pka_2f pka_3f pka_4f pka_5f pka_6f pkb_0 pkb_1 pkb_2 pkb_3 pkb_4 pkb_5 pkb_6 pkb_0f pkb_1f pkb_2f pkb_3f pkb_4f pkb_5f pkb_6f
    generalize (((ut.setCell ⟨w.heap.size, 5, none⟩ (.int .i64 0)).setCell ⟨w.heap.size + 1, 5, none⟩ (.int .i64 0)).setCell ⟨w.heap.size, 6, none⟩ (.int .i64 0)).setCell ⟨w.heap.size + 1, 6, none⟩ (.int .i64 0) = u2 at *
    refine (HB.out _).mono ?_
    rintro e w1 ⟨rfl, hC⟩
    dsimp only
    replace ka := ka.on hC; replace kb := kb.on hC; replace bc := bc.trans (hC.mono bc.size); clear hC
    obtain ⟨⟨pka_0, pka_1, pka_2, pka_3, pka_4, pka_5, pka_6⟩, pka_0f, pka_1f, pka_2f, pka_3f, pka_4f, pka_5f, pka_6f⟩ := ka.seven
    go_wp2_with fail
    clear pka_0 pka_1 pka_2 pka_3 pka_4 pka_5 pka_6 pka_0f pka_1f pka_2f pka_3f pka_4f pka_5f pka_6f
    refine (HCA.out _).mono ?_
    rintro e w2 ⟨rfl, hC⟩
    dsimp only
    replace ka := ka.on hC; replace kb := kb.on hC; replace bc := bc.trans (hC.mono bc.size); clear hC
    go_wp2_with fail
    refine (HB.out _).mono ?_
    rintro e w4 ⟨rfl, hC⟩
    dsimp only
    replace ka := ka.on hC; replace kb := kb.on hC; replace bc := bc.trans (hC.mono bc.size); clear hC
    go_wp2
    go_ret
    exact ⟨rfl, bc⟩
end Go.Proofs.Ytffbhdllepjdeaa
