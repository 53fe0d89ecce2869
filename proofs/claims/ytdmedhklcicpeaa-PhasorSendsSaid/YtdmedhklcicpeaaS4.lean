/-
  The document's bits by two and two as samples. Conditions: bits that can be read, up to 4,096, and a strength that may be.
-/
import Derived.Test.YtdmedhklcicpeaaW1
import Derived.Deep.RegionHeld3
import Derived.Deep.AppendLies
namespace Go.Proofs.Ytdmedhklcicpeaa
open Go.RowKit

set_option maxRecDepth 100000 in
set_option maxHeartbeats 4000000 in
theorem rpairs_any (A : Option Addr) (n c : Nat) (l : List Bool) (amp : Int) (w : World) (hn : n = l.length) (hm : n ≤ 8192) (hA : Bools w.heap.size w A l) (h0 : 1 ≤ amp) (h1 : amp ≤ 65536) :
    Calls Try.prog 41 #[.slice A n c, .int .i64 amp] w fun e w' => ∃ v, e = .returned v ∧ w'.ownsRow w.heap.size 38 2 v (pairsS amp l).length (cellsS (pairsS amp l)) ∧ Below w.heap.size w w' := by
  have HN := Lib.hid hn; have HA := Lib.hid hA; clear hn hA
  have htw := fun (a b : Bool) (w1 : World) => rtwo_any a b amp w1 h0 h1
  have HTW := Lib.hid htw; clear htw
  obtain ⟨i0, hi, hz0, hz1, hz2⟩ := info_parts Try.infoS
  go_enter Try.func41, Try.ntmps41
  go_wp2
  go_loopw [5, 6] (fun ov i wr => ∃ k : Nat, k ≤ (n + 1) / 2 ∧ i = .int .i64 (2 * k : Nat) ∧ wr.ownsRow w.heap.size 38 2 ov k (cellsS ((pairsS amp l).take k)) ∧ Below w.heap.size w wr)
    (fun _ i _ => n + 1 - (intOf i).toNat)
  case atStart => exact ⟨0, by omega, rfl, World.ownsRow_nil _ _ _ _, Below.refl _ _⟩
  case round =>
    obtain ⟨k, hk, rfl, hrow, hBr⟩ := hrel
    have hsr := hBr.size
    obtain ⟨i, hik⟩ : ∃ i, i = 2 * k := ⟨_, rfl⟩
    rw [← hik]
    by_cases hlt : i < n
    · have hil : i < l.length := by have := HN.out; omega
      obtain ⟨b, off, rfl, hbl, hc0⟩ := (HA.out.below hBr).at_ hil
      have hbs : b < wr.heap.size := Nat.lt_of_lt_of_le hbl hBr.size
      have hsn := pairs_snoc amp l k (by omega)
      rw [← hik] at hsn
      have HIK := Lib.hid hik; clear hik
      have hd0 : decide (i < n) = true := by simpa using hlt
      obtain ⟨j, hj⟩ : ∃ j, j = i + 1 := ⟨_, rfl⟩
      rw [← hj] at hsn
      have hwr : IntKind.i64.wrap ((i : Int) + 1) = (j : Int) := by rw [IntWalk.i64_in _ (by omega)]; omega
      by_cases hl1 : j < n
      · have hil1 : j < l.length := by have := HN.out; omega
        have hc1 : wr.cell? ⟨b, off + j, none⟩ = some (.bool (l[j]?.getD false)) := by
          obtain ⟨b2, off2, e2, _, hc⟩ := (HA.out.below hBr).at_ hil1
          injection e2 with e2; injection e2 with e2 e3; subst e2; subst e3; exact hc
        have hd1 : decide ((j : Int) < (n : Int)) = true := by simp; omega
        have hd2 : decide (j < n) = true := by simpa using hl1
        have HJ := Lib.hid hj; clear hj
        generalize l[i]?.getD false = x at *
        generalize l[j]?.getD false = y at *
        have HSN := Lib.hid hsn
        clear hsn hil hil1
        go_wp2
        have hkeep : ∀ W : World, Below w.heap.size wr W → W.cell? ⟨b, off + i, none⟩ = some (.bool x) ∧ W.cell? ⟨b, off + j, none⟩ = some (.bool y) := fun W hBk => ⟨hBk.cell (p := ⟨b, off + i, none⟩) hbl |>.trans hc0, hBk.cell (p := ⟨b, off + j, none⟩) hbl |>.trans hc1⟩
        have HKP := Lib.hid hkeep; clear hkeep
        have hBd : Below w.heap.size wr wr.drew := (Below.refl _ _).drew
        have hBd2 : Below wr.heap.size wr wr.drew := (Below.refl _ _).drew
        have hrowd := own_on hrow hBd2
        have htw := HTW.out x y wr.drew
        generalize twoS x y amp = u at *
        obtain ⟨u1, u2⟩ := u
        dsimp only at htw
        have HT2 := Lib.hid htw; clear htw
        go_region_held3 (fun w' => w'.cell? ⟨b, off + i, none⟩ = some (.bool x) ∧ w'.cell? ⟨b, off + j, none⟩ = some (.bool y)) (first | exact HKP.out _ hBd | exact HKP.out _ hBx | exact HKP.out _ (hBx.alloc hsx _) | exact HKP.out _ hBy)
          (first
            | (refine step_append_lies _ rfl _ _ 25 rfl w.heap.size 38 i0 (.agg #[.int .i64 0, .int .i64 0]) 2 16 Try.underlying25 hi hz0 hz1 hz2 rfl (by decide) u5 _ _ rfl (hrow2.alloc _) ⟨w2.heap.size, 0, none⟩ 1 1 [.int .i64 u1, .int .i64 u2] rfl rfl (cell_two_new _ _ _ _) (by simp [Value.oneCell']) (by decide) (by unfold maxLen; omega) (by omega) (by simp; omega) _ rfl ?_; intro g' cap' w3 hown' hgrow _ _; have hBy := own_below hrow2 hgrow hBx (Nat.le_refl _) hsx)
            | (go_at_call 70; refine HT2.out.mono ?_; rintro e w2 ⟨rfl, hB2⟩; have hrow2 := own_on hrowd hB2; have hs2 : wr.heap.size ≤ w2.heap.size := hB2.size; have hBx : Below w.heap.size wr w2 := hBd.trans (hB2.mono hsr); have hsx : w.heap.size ≤ w2.heap.size := Nat.le_trans hsr hs2))
        go_wp2
        go_roundw
        case rel =>
          refine ⟨k + 1, by have := HIK.out; omega, by have := HIK.out; have := HJ.out; congr 1; omega, ?_, hBr.trans hBy⟩
          rw [HSN.out, cellsS_append]
          exact hown'
        case measure => have := HIK.out; simp [intOf]; omega
      · have hd1 : decide ((j : Int) < (n : Int)) = false := by simp; omega
        have hd2 : decide (j < n) = false := by simpa using hl1
        have hno : l[j]?.getD false = false := by rw [List.getElem?_eq_none (by have := HN.out; omega)]; rfl
        rw [hno] at hsn
        generalize l[i]?.getD false = x at *
        have HSN := Lib.hid hsn
        have HJ := Lib.hid hj
        clear hsn hil hno hj
        go_wp2
        have hkeep : ∀ W : World, Below w.heap.size wr W → W.cell? ⟨b, off + i, none⟩ = some (.bool x) := fun W hBk => hBk.cell (p := ⟨b, off + i, none⟩) hbl |>.trans hc0
        have HKP := Lib.hid hkeep; clear hkeep
        have hBd : Below w.heap.size wr wr.drew := (Below.refl _ _).drew
        have hBd2 : Below wr.heap.size wr wr.drew := (Below.refl _ _).drew
        have hrowd := own_on hrow hBd2
        have htw := HTW.out x false wr.drew
        generalize twoS x false amp = u at *
        obtain ⟨u1, u2⟩ := u
        dsimp only at htw
        have HT2 := Lib.hid htw; clear htw
        refine wp_region_any (by kernel_rfl) ?_
        refine wpAny_take (i := 0) (v := u5) rfl (by kernel_rfl) (by kernel_rfl) (by kernel_rfl) (fun _ _ _ h => h) (Or.inl ⟨by rfl, fun w => by go_simp⟩) ?_
        change wpAny _ _ _ _ _ _ ⟨#[.slice (some ⟨b, off, none⟩) n c, .int .i64 amp, undef, undef, .slice none 0 0, u5, .int .i64 (i : Int), .int .i64 (i : Int), .slice (some ⟨b, off, none⟩) n c, .int .i64 (n : Int), .bool true, u11, u12, u5, u14, u15, u16, u17, u18, u19, u20, u21, u22, u23, u24, u25, u26, u27, u28, u29, u30, u31, u32, u33, undef], []⟩ _
        refine wpAny_take (i := 1) (v := .slice (some ⟨b, off, none⟩) n c) rfl (by kernel_rfl) (by kernel_rfl) (by kernel_rfl) (fun _ _ _ h => h) (Or.inl ⟨by rfl, fun w => by go_simp⟩) ?_
        change wpAny _ _ _ _ _ _ ⟨#[.slice (some ⟨b, off, none⟩) n c, .int .i64 amp, undef, undef, .slice none 0 0, u5, .int .i64 (i : Int), .int .i64 (i : Int), .slice (some ⟨b, off, none⟩) n c, .int .i64 (n : Int), .bool true, u11, u12, u5, .slice (some ⟨b, off, none⟩) n c, u15, u16, u17, u18, u19, u20, u21, u22, u23, u24, u25, u26, u27, u28, u29, u30, u31, u32, u33, undef], []⟩ _
        refine wpAny_take (i := 2) (v := .int .i64 (i : Int)) rfl (by kernel_rfl) (by kernel_rfl) (by kernel_rfl) (fun _ _ _ h => h) (Or.inl ⟨by rfl, fun w => by go_simp⟩) ?_
        change wpAny _ _ _ _ _ _ ⟨#[.slice (some ⟨b, off, none⟩) n c, .int .i64 amp, undef, undef, .slice none 0 0, u5, .int .i64 (i : Int), .int .i64 (i : Int), .slice (some ⟨b, off, none⟩) n c, .int .i64 (n : Int), .bool true, u11, u12, u5, .slice (some ⟨b, off, none⟩) n c, .int .i64 (i : Int), u16, u17, u18, u19, u20, u21, u22, u23, u24, u25, u26, u27, u28, u29, u30, u31, u32, u33, undef], []⟩ _
        refine wpAny_take (i := 3) (v := .pointer (some ⟨b, off + i, none⟩)) rfl (by kernel_rfl) (by kernel_rfl) (by kernel_rfl) (fun _ _ _ h => h) (Or.inl ⟨by rfl, fun w => by go_simp⟩) ?_
        change wpAny _ _ _ _ _ _ ⟨#[.slice (some ⟨b, off, none⟩) n c, .int .i64 amp, undef, undef, .slice none 0 0, u5, .int .i64 (i : Int), .int .i64 (i : Int), .slice (some ⟨b, off, none⟩) n c, .int .i64 (n : Int), .bool true, u11, u12, u5, .slice (some ⟨b, off, none⟩) n c, .int .i64 (i : Int), .pointer (some ⟨b, off + i, none⟩), u17, u18, u19, u20, u21, u22, u23, u24, u25, u26, u27, u28, u29, u30, u31, u32, u33, undef], []⟩ _
        refine wpAny_take (i := 5) (v := .int .i64 (i : Int)) rfl (by kernel_rfl) (by kernel_rfl) (by kernel_rfl) (fun _ _ _ h => h) (Or.inl ⟨by rfl, fun w => by go_simp⟩) ?_
        change wpAny _ _ _ _ _ _ ⟨#[.slice (some ⟨b, off, none⟩) n c, .int .i64 amp, undef, undef, .slice none 0 0, u5, .int .i64 (i : Int), .int .i64 (i : Int), .slice (some ⟨b, off, none⟩) n c, .int .i64 (n : Int), .bool true, u11, u12, u5, .slice (some ⟨b, off, none⟩) n c, .int .i64 (i : Int), .pointer (some ⟨b, off + i, none⟩), u17, .int .i64 (i : Int), u19, u20, u21, u22, u23, u24, u25, u26, u27, u28, u29, u30, u31, u32, u33, undef], []⟩ _
        refine wpAny_take (i := 6) (v := .int .i64 (j : Int)) rfl (by kernel_rfl) (by kernel_rfl) (by kernel_rfl) (fun _ _ _ h => h) (Or.inl ⟨by rfl, fun w => by go_simp⟩) ?_
        change wpAny _ _ _ _ _ _ ⟨#[.slice (some ⟨b, off, none⟩) n c, .int .i64 amp, undef, undef, .slice none 0 0, u5, .int .i64 (i : Int), .int .i64 (i : Int), .slice (some ⟨b, off, none⟩) n c, .int .i64 (n : Int), .bool true, u11, u12, u5, .slice (some ⟨b, off, none⟩) n c, .int .i64 (i : Int), .pointer (some ⟨b, off + i, none⟩), u17, .int .i64 (i : Int), .int .i64 (j : Int), u20, u21, u22, u23, u24, u25, u26, u27, u28, u29, u30, u31, u32, u33, undef], []⟩ _
        refine wpAny_take (i := 7) (v := .slice (some ⟨b, off, none⟩) n c) rfl (by kernel_rfl) (by kernel_rfl) (by kernel_rfl) (fun _ _ _ h => h) (Or.inl ⟨by rfl, fun w => by go_simp⟩) ?_
        change wpAny _ _ _ _ _ _ ⟨#[.slice (some ⟨b, off, none⟩) n c, .int .i64 amp, undef, undef, .slice none 0 0, u5, .int .i64 (i : Int), .int .i64 (i : Int), .slice (some ⟨b, off, none⟩) n c, .int .i64 (n : Int), .bool true, u11, u12, u5, .slice (some ⟨b, off, none⟩) n c, .int .i64 (i : Int), .pointer (some ⟨b, off + i, none⟩), u17, .int .i64 (i : Int), .int .i64 (j : Int), .slice (some ⟨b, off, none⟩) n c, u21, u22, u23, u24, u25, u26, u27, u28, u29, u30, u31, u32, u33, undef], []⟩ _
        refine wpAny_take (i := 8) (v := .int .i64 (n : Int)) rfl (by kernel_rfl) (by kernel_rfl) (by kernel_rfl) (fun _ _ _ h => h) (Or.inl ⟨by rfl, fun w => by go_simp⟩) ?_
        change wpAny _ _ _ _ _ _ ⟨#[.slice (some ⟨b, off, none⟩) n c, .int .i64 amp, undef, undef, .slice none 0 0, u5, .int .i64 (i : Int), .int .i64 (i : Int), .slice (some ⟨b, off, none⟩) n c, .int .i64 (n : Int), .bool true, u11, u12, u5, .slice (some ⟨b, off, none⟩) n c, .int .i64 (i : Int), .pointer (some ⟨b, off + i, none⟩), u17, .int .i64 (i : Int), .int .i64 (j : Int), .slice (some ⟨b, off, none⟩) n c, .int .i64 (n : Int), u22, u23, u24, u25, u26, u27, u28, u29, u30, u31, u32, u33, undef], []⟩ _
        refine wpAny_take (i := 9) (v := .bool false) rfl (by kernel_rfl) (by kernel_rfl) (by kernel_rfl) (fun _ _ _ h => h) (Or.inl ⟨by rfl, fun w => by go_simp⟩) ?_
        change wpAny _ _ _ _ _ _ ⟨#[.slice (some ⟨b, off, none⟩) n c, .int .i64 amp, undef, undef, .slice none 0 0, u5, .int .i64 (i : Int), .int .i64 (i : Int), .slice (some ⟨b, off, none⟩) n c, .int .i64 (n : Int), .bool true, u11, u12, u5, .slice (some ⟨b, off, none⟩) n c, .int .i64 (i : Int), .pointer (some ⟨b, off + i, none⟩), u17, .int .i64 (i : Int), .int .i64 (j : Int), .slice (some ⟨b, off, none⟩) n c, .int .i64 (n : Int), .bool false, u23, u24, u25, u26, u27, u28, u29, u30, u31, u32, u33, undef], []⟩ _
        refine wpAny_take (i := 10) (v := .bool false) rfl (by kernel_rfl) (by kernel_rfl) (by kernel_rfl) (fun _ _ _ h => h) (Or.inl ⟨by rfl, fun w => by go_simp⟩) ?_
        change wpAny _ _ _ _ _ _ ⟨#[.slice (some ⟨b, off, none⟩) n c, .int .i64 amp, undef, undef, .slice none 0 0, u5, .int .i64 (i : Int), .int .i64 (i : Int), .slice (some ⟨b, off, none⟩) n c, .int .i64 (n : Int), .bool true, u11, u12, u5, .slice (some ⟨b, off, none⟩) n c, .int .i64 (i : Int), .pointer (some ⟨b, off + i, none⟩), u17, .int .i64 (i : Int), .int .i64 (j : Int), .slice (some ⟨b, off, none⟩) n c, .int .i64 (n : Int), .bool false, .bool false, u24, u25, u26, u27, u28, u29, u30, u31, u32, u33, undef], []⟩ _
        refine wpAny_take (i := 11) (v := undef) rfl (by kernel_rfl) (by kernel_rfl) (by kernel_rfl) (fun _ _ _ h => h) (Or.inr ⟨by rfl, rfl⟩) ?_
        change wpAny _ _ _ _ _ _ ⟨#[.slice (some ⟨b, off, none⟩) n c, .int .i64 amp, undef, undef, .slice none 0 0, u5, .int .i64 (i : Int), .int .i64 (i : Int), .slice (some ⟨b, off, none⟩) n c, .int .i64 (n : Int), .bool true, u11, u12, u5, .slice (some ⟨b, off, none⟩) n c, .int .i64 (i : Int), .pointer (some ⟨b, off + i, none⟩), u17, .int .i64 (i : Int), .int .i64 (j : Int), .slice (some ⟨b, off, none⟩) n c, .int .i64 (n : Int), .bool false, .bool false, undef, u25, u26, u27, u28, u29, u30, u31, u32, u33, undef], []⟩ _
        refine wpAny_take (i := 12) (v := undef) rfl (by kernel_rfl) (by kernel_rfl) (by kernel_rfl) (fun _ _ _ h => h) (Or.inr ⟨by rfl, rfl⟩) ?_
        change wpAny _ _ _ _ _ _ ⟨#[.slice (some ⟨b, off, none⟩) n c, .int .i64 amp, undef, undef, .slice none 0 0, u5, .int .i64 (i : Int), .int .i64 (i : Int), .slice (some ⟨b, off, none⟩) n c, .int .i64 (n : Int), .bool true, u11, u12, u5, .slice (some ⟨b, off, none⟩) n c, .int .i64 (i : Int), .pointer (some ⟨b, off + i, none⟩), u17, .int .i64 (i : Int), .int .i64 (j : Int), .slice (some ⟨b, off, none⟩) n c, .int .i64 (n : Int), .bool false, .bool false, undef, undef, u26, u27, u28, u29, u30, u31, u32, u33, undef], []⟩ _
        refine wpAny_take (i := 13) (v := undef) rfl (by kernel_rfl) (by kernel_rfl) (by kernel_rfl) (fun _ _ _ h => h) (Or.inr ⟨by rfl, rfl⟩) ?_
        change wpAny _ _ _ _ _ _ ⟨#[.slice (some ⟨b, off, none⟩) n c, .int .i64 amp, undef, undef, .slice none 0 0, u5, .int .i64 (i : Int), .int .i64 (i : Int), .slice (some ⟨b, off, none⟩) n c, .int .i64 (n : Int), .bool true, u11, u12, u5, .slice (some ⟨b, off, none⟩) n c, .int .i64 (i : Int), .pointer (some ⟨b, off + i, none⟩), u17, .int .i64 (i : Int), .int .i64 (j : Int), .slice (some ⟨b, off, none⟩) n c, .int .i64 (n : Int), .bool false, .bool false, undef, undef, undef, u27, u28, u29, u30, u31, u32, u33, undef], []⟩ _
        refine wpAny_take (i := 14) (v := undef) rfl (by kernel_rfl) (by kernel_rfl) (by kernel_rfl) (fun _ _ _ h => h) (Or.inr ⟨by rfl, rfl⟩) ?_
        change wpAny _ _ _ _ _ _ ⟨#[.slice (some ⟨b, off, none⟩) n c, .int .i64 amp, undef, undef, .slice none 0 0, u5, .int .i64 (i : Int), .int .i64 (i : Int), .slice (some ⟨b, off, none⟩) n c, .int .i64 (n : Int), .bool true, u11, u12, u5, .slice (some ⟨b, off, none⟩) n c, .int .i64 (i : Int), .pointer (some ⟨b, off + i, none⟩), u17, .int .i64 (i : Int), .int .i64 (j : Int), .slice (some ⟨b, off, none⟩) n c, .int .i64 (n : Int), .bool false, .bool false, undef, undef, undef, undef, u28, u29, u30, u31, u32, u33, undef], []⟩ _
        refine wpAny_take (i := 15) (v := undef) rfl (by kernel_rfl) (by kernel_rfl) (by kernel_rfl) (fun _ _ _ h => h) (Or.inr ⟨by rfl, rfl⟩) ?_
        change wpAny _ _ _ _ _ _ ⟨#[.slice (some ⟨b, off, none⟩) n c, .int .i64 amp, undef, undef, .slice none 0 0, u5, .int .i64 (i : Int), .int .i64 (i : Int), .slice (some ⟨b, off, none⟩) n c, .int .i64 (n : Int), .bool true, u11, u12, u5, .slice (some ⟨b, off, none⟩) n c, .int .i64 (i : Int), .pointer (some ⟨b, off + i, none⟩), u17, .int .i64 (i : Int), .int .i64 (j : Int), .slice (some ⟨b, off, none⟩) n c, .int .i64 (n : Int), .bool false, .bool false, undef, undef, undef, undef, undef, u29, u30, u31, u32, u33, undef], []⟩ _
        refine wpAny_take (i := 16) (v := .bool false) rfl (by kernel_rfl) (by kernel_rfl) (by kernel_rfl) (fun _ _ _ h => h) (Or.inl ⟨by rfl, fun w => by go_simp⟩) ?_
        change wpAny _ _ _ _ _ _ ⟨#[.slice (some ⟨b, off, none⟩) n c, .int .i64 amp, undef, undef, .slice none 0 0, u5, .int .i64 (i : Int), .int .i64 (i : Int), .slice (some ⟨b, off, none⟩) n c, .int .i64 (n : Int), .bool true, u11, u12, u5, .slice (some ⟨b, off, none⟩) n c, .int .i64 (i : Int), .pointer (some ⟨b, off + i, none⟩), u17, .int .i64 (i : Int), .int .i64 (j : Int), .slice (some ⟨b, off, none⟩) n c, .int .i64 (n : Int), .bool false, .bool false, undef, undef, undef, undef, undef, .bool false, u30, u31, u32, u33, undef], []⟩ _
        refine wpAny_take (i := 17) (v := .int .i64 amp) rfl (by kernel_rfl) (by kernel_rfl) (by kernel_rfl) (fun _ _ _ h => h) (Or.inl ⟨by rfl, fun w => by go_simp⟩) ?_
        change wpAny _ _ _ _ _ _ ⟨#[.slice (some ⟨b, off, none⟩) n c, .int .i64 amp, undef, undef, .slice none 0 0, u5, .int .i64 (i : Int), .int .i64 (i : Int), .slice (some ⟨b, off, none⟩) n c, .int .i64 (n : Int), .bool true, u11, u12, u5, .slice (some ⟨b, off, none⟩) n c, .int .i64 (i : Int), .pointer (some ⟨b, off + i, none⟩), u17, .int .i64 (i : Int), .int .i64 (j : Int), .slice (some ⟨b, off, none⟩) n c, .int .i64 (n : Int), .bool false, .bool false, undef, undef, undef, undef, undef, .bool false, .int .i64 amp, u31, u32, u33, undef], []⟩ _
        have hcd : wr.drew.cell? ⟨b, off + i, none⟩ = some (.bool x) := HKP.out _ hBd
        refine wpAny_ready (rs := [4]) (by kernel_rfl) (by simp) ?_
        refine AllReady.cons rfl (fun K hK => ?_) AllReady.nil
        go_simp
        refine hK _ _ ?_
        clear hK K
        change wpAny _ _ _ _ _ _ ⟨#[.slice (some ⟨b, off, none⟩) n c, .int .i64 amp, undef, undef, .slice none 0 0, u5, .int .i64 (i : Int), .int .i64 (i : Int), .slice (some ⟨b, off, none⟩) n c, .int .i64 (n : Int), .bool true, u11, u12, u5, .slice (some ⟨b, off, none⟩) n c, .int .i64 (i : Int), .pointer (some ⟨b, off + i, none⟩), .bool x, .int .i64 (i : Int), .int .i64 (j : Int), .slice (some ⟨b, off, none⟩) n c, .int .i64 (n : Int), .bool false, .bool false, undef, undef, undef, undef, undef, .bool false, .int .i64 amp, u31, u32, u33, undef], []⟩ _
        refine wpAny_ready (rs := [18]) (by kernel_rfl) (by simp) ?_
        refine AllReady.cons rfl (fun K hK => ?_) AllReady.nil
        go_simp
        refine HT2.out.mono ?_
        rintro e w2 ⟨rfl, hB2⟩
        have hrow2 := own_on hrowd hB2
        have hs2 : wr.heap.size ≤ w2.heap.size := hB2.size
        have hBx : Below w.heap.size wr w2 := hBd.trans (hB2.mono hsr)
        have hsx : w.heap.size ≤ w2.heap.size := Nat.le_trans hsr hs2
        refine hK _ _ ?_
        clear hK K
        change wpAny _ _ _ _ _ _ ⟨#[.slice (some ⟨b, off, none⟩) n c, .int .i64 amp, undef, undef, .slice none 0 0, u5, .int .i64 (i : Int), .int .i64 (i : Int), .slice (some ⟨b, off, none⟩) n c, .int .i64 (n : Int), .bool true, u11, u12, u5, .slice (some ⟨b, off, none⟩) n c, .int .i64 (i : Int), .pointer (some ⟨b, off + i, none⟩), .bool x, .int .i64 (i : Int), .int .i64 (j : Int), .slice (some ⟨b, off, none⟩) n c, .int .i64 (n : Int), .bool false, .bool false, undef, undef, undef, undef, undef, .bool false, .int .i64 amp, .agg #[.int .i64 u1, .int .i64 u2], u32, u33, undef], []⟩ _
        refine wpAny_ready (rs := [19]) (by kernel_rfl) (by simp) ?_
        refine AllReady.cons rfl (fun K hK => ?_) AllReady.nil
        go_simp
        refine hK _ _ ?_
        clear hK K
        change wpAny _ _ _ _ _ _ ⟨#[.slice (some ⟨b, off, none⟩) n c, .int .i64 amp, undef, undef, .slice none 0 0, u5, .int .i64 (i : Int), .int .i64 (i : Int), .slice (some ⟨b, off, none⟩) n c, .int .i64 (n : Int), .bool true, u11, u12, u5, .slice (some ⟨b, off, none⟩) n c, .int .i64 (i : Int), .pointer (some ⟨b, off + i, none⟩), .bool x, .int .i64 (i : Int), .int .i64 (j : Int), .slice (some ⟨b, off, none⟩) n c, .int .i64 (n : Int), .bool false, .bool false, undef, undef, undef, undef, undef, .bool false, .int .i64 amp, .agg #[.int .i64 u1, .int .i64 u2], .slice (some ⟨w2.heap.size, 0, none⟩) 1 1, u33, undef], []⟩ _
        refine wpAny_ready (rs := [20]) (by kernel_rfl) (by simp) ?_
        refine AllReady.cons rfl (fun K hK => ?_) AllReady.nil
        refine step_append_lies _ rfl _ _ 25 rfl w.heap.size 38 i0 (.agg #[.int .i64 0, .int .i64 0]) 2 16 Try.underlying25 hi hz0 hz1 hz2 rfl (by decide) u5 _ _ rfl (hrow2.alloc _) ⟨w2.heap.size, 0, none⟩ 1 1 [.int .i64 u1, .int .i64 u2] rfl rfl (cell_two_new _ _ _ _) (by simp [Value.oneCell']) (by decide) (by unfold maxLen; omega) (by omega) (by simp; omega) _ rfl ?_
        intro g' cap' w3 hown' hgrow _ _
        have hBy := own_below hrow2 hgrow hBx (Nat.le_refl _) hsx
        refine hK _ _ ?_
        clear hK K
        change wpAny _ _ _ _ _ _ ⟨#[.slice (some ⟨b, off, none⟩) n c, .int .i64 amp, undef, undef, .slice none 0 0, u5, .int .i64 (i : Int), .int .i64 (i : Int), .slice (some ⟨b, off, none⟩) n c, .int .i64 (n : Int), .bool true, u11, u12, u5, .slice (some ⟨b, off, none⟩) n c, .int .i64 (i : Int), .pointer (some ⟨b, off + i, none⟩), .bool x, .int .i64 (i : Int), .int .i64 (j : Int), .slice (some ⟨b, off, none⟩) n c, .int .i64 (n : Int), .bool false, .bool false, undef, undef, undef, undef, undef, .bool false, .int .i64 amp, .agg #[.int .i64 u1, .int .i64 u2], .slice (some ⟨w2.heap.size, 0, none⟩) 1 1, .slice (some ⟨g', 0, none⟩) (k + 1) cap', undef], []⟩ _
        refine wpAny_take (i := 21) (v := .slice (some ⟨g', 0, none⟩) (k + 1) cap') rfl (by kernel_rfl) (by kernel_rfl) (by kernel_rfl) (fun _ _ _ h => h) (Or.inl ⟨by rfl, fun w => by go_simp⟩) ?_
        change wpAny _ _ _ _ _ _ ⟨#[.slice (some ⟨b, off, none⟩) n c, .int .i64 amp, undef, undef, .slice none 0 0, .slice (some ⟨g', 0, none⟩) (k + 1) cap', .int .i64 (i : Int), .int .i64 (i : Int), .slice (some ⟨b, off, none⟩) n c, .int .i64 (n : Int), .bool true, u11, u12, u5, .slice (some ⟨b, off, none⟩) n c, .int .i64 (i : Int), .pointer (some ⟨b, off + i, none⟩), .bool x, .int .i64 (i : Int), .int .i64 (j : Int), .slice (some ⟨b, off, none⟩) n c, .int .i64 (n : Int), .bool false, .bool false, undef, undef, undef, undef, undef, .bool false, .int .i64 amp, .agg #[.int .i64 u1, .int .i64 u2], .slice (some ⟨w2.heap.size, 0, none⟩) 1 1, .slice (some ⟨g', 0, none⟩) (k + 1) cap', undef], []⟩ _
        refine wpAny_done (by kernel_rfl) ?_ _
        go_wp2
        go_roundw
        case rel =>
          refine ⟨k + 1, by have := HIK.out; omega, by have := HIK.out; have := HJ.out; congr 1; omega, ?_, hBr.trans hBy⟩
          rw [HSN.out, cellsS_append]
          exact hown'
        case measure => have := HIK.out; simp [intOf]; omega
    · have htk : (pairsS amp l).take k = pairsS amp l := List.take_of_length_le (by rw [pairsS_length]; have := HN.out; omega)
      rw [htk] at hrow
      have hkk : k = (pairsS amp l).length := by rw [pairsS_length]; have := HN.out; omega
      have hd0 : decide (i < n) = false := by simpa using hlt
      clear hik
      rw [hkk] at hrow
      go_wp2
      go_ret
      exact ⟨_, rfl, hrow, hBr⟩
end Go.Proofs.Ytdmedhklcicpeaa
