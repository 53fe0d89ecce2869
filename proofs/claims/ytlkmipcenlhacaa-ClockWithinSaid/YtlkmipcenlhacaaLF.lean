/-
  begun of the statements of layer 13. Conditions: what the program's functions answer. (Printed by tools/gen13f.py; laid ahead.)
-/
import Derived.Test.YtlkmipcenlhacaaLC
import Derived.Test.YtlkmipcenlhacaaMZ
import Derived.Deep.CutBlock
namespace Go.Proofs.Ytlkmipcenlhacaa
open Go.RowKit

/-- What the program's Check answers. -/
def ClkCheckC : Prop := ∀ (m : ML) (c s : Slc) (k : Ck) (v : Slc) (w : World), Med w m c s → CkOk w.heap.size w k v → Calls Try.prog 12 #[vM m c s, .agg (cK k v)] w fun e w' => e = .returned (.int .i64 (chkK m k)) ∧ Below w.heap.size w w'
/-- What the program's Slot answers. -/
def ClkSlotC : Prop := ∀ (m : ML) (c s : Slc) (k : Ck) (v : Slc) (w : World), Med w m c s → CkOk w.heap.size w k v → Calls Try.prog 9 #[vM m c s, .agg (cK k v)] w (ResSp w (slotK m k))
/-- What the program's Send answers. -/
def ClkSendC : Prop := ∀ (m : ML) (c s : Slc) (k : Ck) (v : Slc) (w : World), Med w m c s → CkOk w.heap.size w k v → Calls Try.prog 18 #[vM m c s, .agg (cK k v)] w fun e w' => e = .returned (.tuple #[.int .i64 (sendK m k).2, .int .i64 (sendK m k).1]) ∧ Below w.heap.size w w'
/-- What the program's Window answers. -/
def ClkWindowC : Prop := ∀ (m : ML) (c s : Slc) (k : Ck) (v : Slc) (w : World), Med w m c s → CkOk w.heap.size w k v → Calls Try.prog 16 #[vM m c s, .agg (cK k v)] w (ResSp w (winK m k))
/-- What the program's See answers. -/
def ClkSeeC : Prop := ∀ (m : ML) (c s : Slc) (k : Ck) (v : Slc) (x : Int) (w : World), Med w m c s → CkOk w.heap.size w k v → Calls Try.prog 23 #[vM m c s, .agg (cK k v), .int .i64 x] w (ResCk w (seeK m k x))
/-- What the program's Correct answers. -/
def ClkCorrectC : Prop := ∀ (m : ML) (c s : Slc) (k : Ck) (v : Slc) (w : World), Med w m c s → CkOk w.heap.size w k v → Calls Try.prog 20 #[vM m c s, .agg (cK k v)] w fun e w' => e = .returned (.tuple #[.int .i64 (corK m k).2, .int .i64 (corK m k).1]) ∧ Below w.heap.size w w'
/-- What the program's Next answers. -/
def ClkNextC : Prop := ∀ (m : ML) (c s : Slc) (k : Ck) (v : Slc) (x : Int) (w : World), Med w m c s → CkOk w.heap.size w k v → Calls Try.prog 25 #[vM m c s, .agg (cK k v), .int .i64 x] w (ResCk w (nextK m k x))
/-- What the program's Join answers. -/
def ClkJoinC : Prop := ∀ (m : ML) (c s : Slc) (a q : Int) (w : World), Med w m c s → -9223372036854775808 ≤ a ∧ a ≤ 9223372036854775807 → Calls Try.prog 27 #[vM m c s, .int .i64 a, .int .i64 q] w (ResCk w (joinK m a q))
/-- What the program's Same answers. -/
def ClkSameC : Prop := ∀ (k : Ck) (v : Slc) (r : Ck) (u : Slc) (w : World), CkOk w.heap.size w k v → CkOk w.heap.size w r u → Calls Try.prog 14 #[.agg (cK k v), .agg (cK r u)] w fun e w' => e = .returned (.bool (sameK k r)) ∧ Below w.heap.size w w'

theorem nth_isK {l : List Int} {i : Nat} {a : Int} (hi : i < l.length) (h1 : i < cntL a l) (h2 : cntL (a - 1) l ≤ i) : nth (sortI l) i = a := by
  have e1 := (sort_nth l a i hi).2 h1
  have e2 := sort_nth l (a - 1) i hi
  have : ¬ nth (sortI l) i ≤ a - 1 := fun h => by have := e2.1 h; omega
  omega
def begM : ML := plainM 4 0
def begK : Ck := ⟨100, 0, []⟩
def begL : Ck := ⟨100, 0, [4, -2, 6]⟩
theorem beg_ok : okM begM := by decide +kernel
theorem beg_send : sendK begM begK = (0, 138) := by
  unfold sendK; rw [if_pos (chkK_zero.2 ⟨beg_ok, by decide⟩)]; rfl
theorem beg_win : winK begM begK = (0, 123, 156) := by
  unfold winK; rw [if_pos (chkK_zero.2 ⟨beg_ok, by decide⟩)]; rfl
theorem beg_cor : corK begM begL = (0, 2) := by
  have a1 : nth (sortI [0, 4, -2, 6]) 1 = 0 := nth_isK (by decide) (by decide) (by decide)
  have a2 : nth (sortI [0, 4, -2, 6]) 2 = 4 := nth_isK (by decide) (by decide) (by decide)
  have l1 : keptLo [0, 4, -2, 6] = 0 := a1
  have l2 : keptHi [0, 4, -2, 6] = 4 := a2
  unfold corK; rw [if_pos (chkK_zero.2 ⟨beg_ok, by decide⟩)]
  show (0, midOf [0, 4, -2, 6]) = _
  unfold midOf
  rw [l1, l2]; rfl
theorem beg_ints {W : World} {g : Nat} (k : Blk W g 2 #[.int .i64 4, .int .i64 (-2), .int .i64 6]) : Ints W.heap.size W (some ⟨g, 0, none⟩) [4, -2, 6] := by
  refine fun _ => ⟨g, 0, rfl, k.lt, fun j hj => ?_⟩
  rw [Nat.zero_add, k.cell]
  obtain rfl | rfl | rfl : j = 0 ∨ j = 1 ∨ j = 2 := by have : j < 3 := hj; omega
  all_goals rfl

set_option maxRecDepth 100000 in
set_option maxHeartbeats 4000000 in
theorem begun13_any (hS : ClkSendC) (hW : ClkWindowC) (hC : ClkCorrectC) (w : World) : Calls Try.prog 11 #[] w fun e w' => e = .returned (.bool true) ∧ Below w.heap.size w w' := by
  have hp := fun U => rplain_good 4 0 U (by decide) (by decide) (by decide) (by decide)
  have hs := fun c s v U (h : Med U begM c s) (k : CkOk U.heap.size U begK v) => hS begM c s begK v U h k
  have hw := fun c s v U (h : Med U begM c s) (k : CkOk U.heap.size U begK v) => hW begM c s begK v U h k
  have hc := fun c s v U (h : Med U begM c s) (k : CkOk U.heap.size U begL v) => hC begM c s begL v U h k
  rw [beg_send] at hs; rw [beg_win] at hw; rw [beg_cor] at hc
  unfold ResSp at hw
  change ∀ U, Calls _ _ _ _ (fun e w' => ∃ c s : Slc, e = .returned (.tuple #[vM begM c s, .int .i64 0]) ∧ Med w' begM c s ∧ Below U.heap.size U w') at hp
  obtain ⟨bm, hbm⟩ : ∃ bm, bm = begM := ⟨_, rfl⟩
  rw [← hbm] at hp hs hw hc
  clear hbm
  obtain ⟨N, S, G, W, D, L, cold, ms⟩ := bm
  dsimp only [begK, begL, cK, vM] at hp hs hw hc
  have HP := Lib.hid hp; have HS := Lib.hid hs; have HW := Lib.hid hw; have HC := Lib.hid hc; clear hp hs hw hc hS hW hC
  go_enter Try.func11, Try.ntmps11
  go_wp2_with fail
  refine (HP.out _).mono ?_
  rintro e w1 ⟨⟨Ac, nc, cc⟩, ⟨As, ns, cs⟩, rfl, hm1, bc⟩
  dsimp only at hm1 ⊢
  have hmk : ∀ X, Below w1.heap.size w1 X → Med X ⟨N, S, G, W, D, L, cold, ms⟩ ⟨Ac, nc, cc⟩ ⟨As, ns, cs⟩ := fun X h => hm1.on h
  have HMK := Lib.hid hmk; clear hmk hm1
  have bq := Below.refl w1.heap.size w1
  have km := Blk.new w1 25 #[.int .i64 N, .int .i64 S, .int .i64 G, .int .i64 W, .int .i64 D, .int .i64 L, .slice Ac nc cc, .slice As ns cs]
  have al := Below.al w1 (.cells #[.int .i64 N, .int .i64 S, .int .i64 G, .int .i64 W, .int .i64 D, .int .i64 L, .slice Ac nc cc, .slice As ns cs] 25)
  have hz1 := bc.size
  replace bc := bc.trans (al.mono bc.size); replace bq := bq.trans al; clear al
  go_upto_region 2 with fail
  generalize w1.alloc (.cells #[.int .i64 N, .int .i64 S, .int .i64 G, .int .i64 W, .int .i64 D, .int .i64 L, .slice Ac nc cc, .slice As ns cs] 25) = u1 at *
  have kc := Blk.new u1 28 #[.int .i64 100, .int .i64 0, .slice none 0 0]
  have al := Below.al u1 (.cells #[.int .i64 100, .int .i64 0, .slice none 0 0] 28)
  have hgl := km.lt
  replace km := km.on al; replace bc := bc.trans (al.mono bc.size); replace bq := bq.trans (al.mono bq.size); clear al
  go_upto_region 3 with fail
  generalize u1.alloc (.cells #[.int .i64 100, .int .i64 0, .slice none 0 0] 28) = u2 at *
  generalize u1.heap.size = g2 at *
  clear u1
  obtain ⟨p0, p1, p2, p3, p4, p5, p6, p7⟩ := km.eight; obtain ⟨q0, q1, q2, -⟩ := kc.three
  go_wp2_with fail
  refine (HS.out ⟨Ac, nc, cc⟩ ⟨As, ns, cs⟩ ⟨none, 0, 0⟩ _ (HMK.out _ bq) (CkOk.zero _ _ _ _)).mono ?_
  rintro e w3 ⟨rfl, hC⟩
  dsimp only
  clear p0 p1 p2 p3 p4 p5 p6 p7 q0 q1 q2
  replace km := km.on hC; replace kc := kc.on hC; replace bc := bc.trans (hC.mono bc.size); replace bq := bq.trans (hC.mono bq.size); clear hC
  obtain ⟨p0, p1, p2, p3, p4, p5, p6, p7⟩ := km.eight; obtain ⟨q0, q1, q2, -⟩ := kc.three
  go_wp2_with fail
  refine (HW.out ⟨Ac, nc, cc⟩ ⟨As, ns, cs⟩ ⟨none, 0, 0⟩ _ (HMK.out _ bq) (CkOk.zero _ _ _ _)).mono ?_
  rintro e w4 ⟨rfl, hC⟩
  dsimp only
  clear p0 p1 p2 p3 p4 p5 p6 p7 q0 q1 q2
  replace km := km.on hC; replace kc := kc.on hC; replace bc := bc.trans (hC.mono bc.size); replace bq := bq.trans (hC.mono bq.size); clear hC
  have kw := Blk.new w4 30 #[.int .i64 123, .int .i64 156]
  have al := Below.al w4 (.cells #[.int .i64 123, .int .i64 156] 30)
  have hgk := kc.lt
  replace km := km.on al; replace kc := kc.on al; replace bc := bc.trans (al.mono bc.size); replace bq := bq.trans (al.mono bq.size); clear al
  go_upto_region 5 with fail
  generalize w4.alloc (.cells #[.int .i64 123, .int .i64 156] 30) = u4 at *
  generalize w4.heap.size = g4 at *
  clear w4
  have kd := Blk.new u4 2 #[.int .i64 4, .int .i64 (-2), .int .i64 6]
  have al := Below.al u4 (.cells #[.int .i64 4, .int .i64 (-2), .int .i64 6] 2)
  have hgw := kw.lt
  replace km := km.on al; replace kc := kc.on al; replace kw := kw.on al; replace bc := bc.trans (al.mono bc.size); replace bq := bq.trans (al.mono bq.size); clear al
  obtain ⟨q0, q1, q2, f0, f1, f2⟩ := kc.three
  go_upto_region 6 with fail
  generalize u4.alloc (.cells #[.int .i64 4, .int .i64 (-2), .int .i64 6] 2) = u5 at *
  generalize u4.heap.size = g5 at *
  have hG := only_setCell (World.grownBy.refl u5 (some g2)) (p := ⟨g2, 2, none⟩) (.inl rfl) (.slice (some ⟨g5, 0, none⟩) 3 3)
  have kc9 : Blk (u5.setCell ⟨g2, 2, none⟩ (.slice (some ⟨g5, 0, none⟩) 3 3)) g2 28 #[.int .i64 100, .int .i64 0, .slice (some ⟨g5, 0, none⟩) 3 3] := by simpa using kc.set_ 2 (.slice (some ⟨g5, 0, none⟩) 3 3)
  have km9 := km.grown hG (some_ne (by omega))
  have kw9 := kw.grown hG (some_ne (by omega))
  have kd9 := kd.grown hG (some_ne (by omega))
  have bc9 := Below.off bc bc.size (by omega) hG
  have bq9 := Below.off bq bq.size (by omega) hG
  clear q0 q1 q2 f0 f1 f2 km kc kw kd bc bq hG
  generalize u5.setCell ⟨g2, 2, none⟩ (.slice (some ⟨g5, 0, none⟩) 3 3) = u6 at *
  have hck : CkOk u6.heap.size u6 ⟨100, 0, [4, -2, 6]⟩ ⟨some ⟨g5, 0, none⟩, 3, 3⟩ := ⟨beg_ints kd9, rfl, Nat.le_refl _, by show 3 ≤ maxLen; unfold maxLen; omega, fun e => by cases e⟩
  obtain ⟨p0, p1, p2, p3, p4, p5, p6, p7⟩ := km9.eight
  obtain ⟨q0, q1, q2, -⟩ := kc9.three
  go_wp2_with fail
  refine (HC.out ⟨Ac, nc, cc⟩ ⟨As, ns, cs⟩ ⟨some ⟨g5, 0, none⟩, 3, 3⟩ _ (HMK.out _ bq9) hck).mono ?_
  rintro e w7 ⟨rfl, hC⟩
  dsimp only
  replace bc9 := bc9.trans (hC.mono bc9.size)
  have kw := kw9.on hC
  obtain ⟨s0, s1, -, -⟩ := kw.two
  clear p0 p1 p2 p3 p4 p5 p6 p7 q0 q1 q2 km9 kc9 kd9 bq9 hck kw9 hC
  go_wp2
  go_ret
  exact ⟨rfl, bc9⟩
end Go.Proofs.Ytlkmipcenlhacaa
