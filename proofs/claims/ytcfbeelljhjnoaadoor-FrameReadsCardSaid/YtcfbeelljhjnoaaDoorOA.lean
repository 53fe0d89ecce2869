/-
  The document's data: bytes of bits, from a place on. Conditions: that the bits can be read, and that the place is within them.
-/
import Derived.Test.YtcfbeelljhjnoaaDoorNL
import Derived.Test.YtcfbeelljhjnoaaDoorNV
namespace Go.Proofs.YtcfbeelljhjnoaaDoor
open Go.RowKit

theorem own_on5 {w w' : World} {b : Nat} {e : TypeId} {size : Nat} {v : Value} {n : Nat} {xs : List Value} (h : w.ownsRow b e size v n xs) (hb : Below w.heap.size w w') : w'.ownsRow b e size v n xs :=
  h.kept (only_of_below hb none) (by
    rcases h.2 with ⟨h1, _⟩ | ⟨g, cap, cur, h1, _⟩
    · rw [h1]; exact .inl rfl
    · exact .inr (by rw [h1]; simp [Value.ownBlock]))
/-- The first bytes of bits. -/
def firstB (M : List Bool) (k : Nat) : List UInt8 := (List.range k).map fun i => UInt8.ofNat (numOf ((M.drop (8 * i)).take 8))
theorem firstB_all (M : List Bool) : firstB M (M.length / 8) = bytesL M := rfl
theorem firstB_next (M : List Bool) (k : Nat) : firstB M (k + 1) = firstB M k ++ [UInt8.ofNat (numOf ((M.drop (8 * k)).take 8))] := bytes_next M k
theorem firstB_length (M : List Bool) (k : Nat) : (firstB M k).length = k := by simp [firstB]
set_option maxRecDepth 8000 in
set_option maxHeartbeats 4000000 in
theorem rdata_at {w : World} {X : List Bool} {A : Option Addr} {n : Nat} (h : Bv w X A n) (c : Nat) (a : Nat) (ha : a ≤ X.length) :
    Calls Tryd.prog 55 #[.agg #[.int .i64 X.length, .slice A n c], .int .i64 a] w fun e w' => ∃ (B : Option Addr) (m d : Nat), e = .returned (.slice B m d) ∧ m = (bytesL (X.drop a)).length ∧ Byt w'.heap.size w' B (bytesL (X.drop a)) ∧ Below w.heap.size w w' := by
  have hl4 := h.len
  obtain ⟨kb, bc⟩ := bx1 w #[.int .i64 X.length, .slice A n c] 28
  obtain ⟨q, hq⟩ : ∃ q, q = (X.drop a).length / 8 := ⟨_, rfl⟩
  have hql : a + 8 * q ≤ X.length ∧ X.length < a + 8 * q + 8 := by rw [hq, List.length_drop]; omega
  have hget := fun (k : Nat) (hk : k < q) (W : World) (hb : Below w.heap.size w W) => rnumber_list (h.on hb) c (N := X.length) (ai := ((a + 8 * k : Nat) : Int)) (Wi := 8) (a := a + 8 * k) (W := 8) rfl rfl rfl (by decide) (by omega)
  have hlt := fun (k : Nat) => numOf_lt ((X.drop (a + 8 * k)).take 8)
  have hv : ∀ k, numOf ((X.drop (a + 8 * k)).take 8) < 256 := fun k => Nat.lt_of_lt_of_le (hlt k) (Nat.pow_le_pow_right (by decide) (List.length_take_le _ _))
  have hnx : ∀ k, ((firstB (X.drop a) (k + 1)).map fun x => Value.int .u8 (x.toNat : Int)) = ((firstB (X.drop a) k).map fun x => Value.int .u8 (x.toNat : Int)) ++ [.int .u8 (numOf ((X.drop (a + 8 * k)).take 8) : Nat)] := fun k => by
    rw [firstB_next, List.map_append, List.drop_drop]
    simp only [List.map_cons, List.map_nil]
    rw [UInt8.toNat_ofNat_of_lt' (by have := hv k; simpa using this)]
  rw [← firstB_all, ← hq]
  have HG := Lib.hid hget; have HV := Lib.hid hv; have HNX := Lib.hid hnx
  have hD0 : firstB (X.drop a) 0 = [] := rfl
  have hDl := firstB_length (X.drop a)
  generalize firstB (X.drop a) = D at *
  have HDL := Lib.hid hDl
  clear hget hlt hv hnx hq hDl
  obtain ⟨i0, hi, hz0, hz1, hz2⟩ := info_parts Tryd.info5
  go_enter Tryd.func55, Tryd.ntmps55
  go_wp2_with fail
  generalize w.alloc (.cells #[.int .i64 X.length, .slice A n c] 28) = w0 at *
  go_loopw [1, 5] (fun i lv wr => ∃ k : Nat, k ≤ q ∧ i = .int .i64 ((a + 8 * k : Nat) : Int) ∧ wr.ownsRow w0.heap.size 5 1 lv k ((D k).map fun x => Value.int .u8 (x.toNat : Int)) ∧ Below w0.heap.size w0 wr)
    (fun i _ _ => a + 8 * q - (intOf i).toNat)
  case atStart => exact ⟨0, by omega, rfl, by rw [hD0]; exact World.ownsRow_nil _ _ _ _, Below.refl _ _⟩
  case round =>
    obtain ⟨k, hk, rfl, hrow, hBr⟩ := hrel
    have hBs := hBr.size
    have k1 := kb.on hBr
    have b1 := bc.trans (hBr.mono bc.size)
    obtain ⟨p0, p1, f0, f1⟩ := k1.two
    have hw8 : IntKind.i64.wrap (((a + 8 * k : Nat) : Int) + 8) = ((a + 8 * k : Nat) : Int) + 8 := IntWalk.i64_in _ (by omega)
    by_cases hlt : k < q
    · have d1 : decide (((a + 8 * k : Nat) : Int) + 8 ≤ (X.length : Int)) = true := by simp; omega
      have hg := HG.out k hlt wr b1
      have hv := HV.out k
      have hnx := HNX.out k
      generalize numOf ((X.drop (a + 8 * k)).take 8) = v at *
      have hwv : IntKind.u8.wrap (v : Int) = (v : Int) := IntWalk.u8_in _ (by omega)
      have HGK := Lib.hid hg; have HN := Lib.hid hnx
      clear hg hnx
      generalize haa : a + 8 * k = aa at *
      go_wp2_with fail
      refine HGK.out.mono ?_
      rintro e w1 ⟨rfl, hC⟩
      dsimp only
      have hrow1 := own_on5 hrow hC
      have hB1 := hBr.trans (hC.mono hBs)
      have hB1s := hB1.size
      have hC1 := hC.size
      clear hrow hC HGK p0 p1 f0 f1
      go_wp2_with (at_builtin; refine wpList_append_own _ rfl _ _ 24 rfl w0.heap.size 5 i0 (.int .u8 0) 1 1 Tryd.underlying24 hi hz0 hz1 hz2 rfl (by decide) u5 _ _ rfl (hrow1.alloc _) ⟨w1.heap.size, 0, none⟩ 1 1 [.int .u8 (v : Int)] rfl rfl (cell_one_new _ _ _) (by simp [Value.oneCell']) (by unfold maxLen; omega) (by omega) (by simp; omega) ?_; intro v' w2 hown' hgrow _)
      go_roundw
      case rel => exact ⟨k + 1, by omega, by go_num, by rw [HN.out]; exact hown', own_below hrow1 hgrow hB1 (Nat.le_refl _) hB1.size⟩
      case measure => simp [intOf]; omega
    · obtain rfl : k = q := by omega
      have d1 : decide (((a + 8 * k : Nat) : Int) + 8 ≤ (X.length : Int)) = false := by simp; omega
      obtain ⟨B, d, rfl, hB⟩ := byt_of_own hrow
      clear hrow
      go_wp2
      go_ret
      exact ⟨B, (D k).length, d, rfl, rfl, hB, b1⟩
end Go.Proofs.YtcfbeelljhjnoaaDoor
