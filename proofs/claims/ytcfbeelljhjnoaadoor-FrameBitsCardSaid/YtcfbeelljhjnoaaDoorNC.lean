/-
  The document's tail: data behind bits. Conditions: that the bits and the bytes can be read, and that there are at most 8 bytes.
-/
import Derived.Test.YtcfbeelljhjnoaaDoorNA
namespace Go.Proofs.YtcfbeelljhjnoaaDoor
open Go.RowKit

theorem dataL_take (ds : List UInt8) (k : Nat) (h : k < ds.length) : dataL (ds.take (k + 1)) = dataL (ds.take k) ++ numBits (ds[k]).toNat 8 := by
  rw [List.take_succ_eq_append_getElem h, dataL_append, dataL_one]
set_option maxRecDepth 8000 in
set_option maxHeartbeats 4000000 in
theorem rtail_any (L : List Bool) (A0 : Option Addr) (n0 c0 : Nat) (ds : List UInt8) (B : Option Addr) (m d : Nat) (w : World) (hV : Bv w L A0 n0) (hm : m = ds.length) (h8 : m ≤ 8) (hB : Byt w.heap.size w B ds) (hl : L.length ≤ 4000) :
    Calls Tryd.prog 35 #[.agg #[.int .i64 L.length, .slice A0 n0 c0], .slice B m d] w (ResB w (L ++ dataL ds)) := by
  obtain ⟨M, hM0, hMe, hMn, hMl⟩ : ∃ M : Nat → List Bool, M 0 = L ∧ M m = L ++ dataL ds ∧ (∀ k (h : k < ds.length), M (k + 1) = M k ++ numBits (ds[k]).toNat 8) ∧ ∀ k, k ≤ 8 → (M k).length ≤ 4064 :=
    ⟨fun k => L ++ dataL (ds.take k), by simp [dataL], by dsimp only; rw [hm, List.take_length], fun k h => by dsimp only; rw [dataL_take ds k h, List.append_assoc], fun k h => by dsimp only; rw [List.length_append, dataL_length, List.length_take]; omega⟩
  rw [← hMe]
  subst hM0
  obtain ⟨kb, kr, bc⟩ := bx2 w #[.int .i64 (M 0).length, .slice A0 n0 c0] #[.int .i64 0, .slice none 0 0] 28 28
  have hV0 := hV.on bc
  have HM := Lib.hid hm; have HMN := Lib.hid hMn; have HML := Lib.hid hMl; have HB := Lib.hid hB
  clear hMe hMn hMl hm hB hV hl
  go_enter Tryd.func35, Tryd.ntmps35
  go_wp2_with fail
  generalize (w.alloc (.cells #[.int .i64 (M 0).length, .slice A0 n0 c0] 28)).alloc (.cells #[.int .i64 0, .slice none 0 0] 28) = w0 at *
  go_loopw [5] (fun i wr => ∃ (k : Nat) (A : Option Addr) (n c : Nat), k ≤ m ∧ i = .int .i64 k ∧ Bv wr (M k) A n ∧ Blk wr w.heap.size 28 #[.int .i64 (M k).length, .slice A n c] ∧ Blk wr (w.heap.size + 1) 28 #[.int .i64 0, .slice none 0 0] ∧ Below w.heap.size w wr)
    (fun i _ => m - (intOf i).toNat)
  case atStart => exact ⟨0, A0, n0, c0, by omega, rfl, hV0, kb, kr, bc⟩
  case round =>
    obtain ⟨k, A, n, c, hk, rfl, hV, h1, h2, hBl⟩ := hrel
    clear hV0 kb kr bc
    by_cases hlt : k < m
    · have hkd : k < ds.length := by rw [← HM.out]; exact hlt
      obtain ⟨b, off, rfl, hbl, hcell⟩ := (HB.out.on hBl).at_ hkd
      have hx : (ds[k]).toNat < 2 ^ 8 := UInt8.toNat_lt _
      have hn1 := HMN.out k hkd
      have hll := HML.out k (by omega)
      have hdr : Below wr.heap.size wr wr.drew := (Below.refl _ _).drew
      have hp := rput5_list (hV.on hdr) c (vi := ((ds[k]).toNat : Int)) (Wi := 8) (v := (ds[k]).toNat) (W := 8) rfl rfl rfl (by decide) hx (by omega)
      rw [← hn1] at hp
      rw [List.getElem?_eq_getElem hkd, Option.getD_some] at hcell
      have HP := Lib.hid hp
      clear hp hn1 hV
      generalize ds[k].toNat = v at *
      have hlo := h1.lt
      have hro := h2.lt
      have hm8 : m ≤ 8 := h8
      have e0 : (0 : Int) ≤ (k : Int) := by omega
      have e1 : (k : Int) < (m : Int) := by omega
      have hwv : IntKind.i64.wrap (v : Int) = (v : Int) := IntWalk.i64_in _ (by omega)
      clear hkd
      obtain ⟨r0, r1, q0, q1⟩ := h1.two
      go_wp2
      go_region_with (go_at_call 33; refine HP.out.mono ?_; rintro e w5 ⟨A5, n5, c5, rfl, v5, hC⟩; have hB5 := hdr.trans hC; replace h1 := h1.on hB5; replace h2 := h2.on hB5; replace hBl := hBl.trans (hB5.mono hBl.size); clear hC; obtain ⟨r0, r1, q0, q1⟩ := h1.two; dsimp only at v5 ⊢)
      all_goals
        go_wp2
        go_roundw
        case rel =>
          have hG := st2 w5 w.heap.size (.int .i64 (M (k + 1)).length) (.slice A5 n5 c5)
          refine ⟨k + 1, A5, n5, c5, by omega, by go_num, v5.off h1 (no_u8 _ _ _ _) hG, h1.put2 _ _, h2.grown hG (some_ne (by omega)), Below.off hBl hBl.size (Nat.le_refl _) hG⟩
        case measure => simp [intOf]; omega
    · obtain rfl : k = m := by omega
      obtain ⟨r0, r1, q0, q1⟩ := h1.two
      obtain ⟨s0, s1, t0, t1⟩ := h2.two
      go_wp2
      exact bodyPost_ret (v := .agg #[.int .i64 (M k).length, .slice A n c]) (by simp [results, Tryd.results35, go_sem, s0, s1]) rfl ⟨A, n, c, rfl, hV.box h2, below_stored hBl (by omega) _ _⟩
end Go.Proofs.YtcfbeelljhjnoaaDoor
