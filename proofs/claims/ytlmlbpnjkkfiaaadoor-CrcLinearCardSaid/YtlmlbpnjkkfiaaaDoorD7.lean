/-
  The bits that are 1 in one of two strings alone, as the statements make them. Conditions: two strings that are as long as each other, and can be read.
-/
import Derived.Test.YtlmlbpnjkkfiaaaDoorD5
import Derived.Deep.RegionHeld3
namespace Go.Proofs.YtlmlbpnjkkfiaaaDoor
open Go.RowKit

/-- The places of the ones among the first k bits. -/
def posOf (l : List Bool) (k : Nat) : List Int := ((List.range k).filter fun i => l[i]?.getD false).map fun i => ((i : Nat) : Int)
theorem posOf_succ (l : List Bool) (k : Nat) : posOf l (k + 1) = posOf l k ++ (if l[k]?.getD false = true then [((k : Nat) : Int)] else []) := by
  unfold posOf
  rw [List.range_succ, List.filter_append, List.map_append]
  congr 1
  by_cases h : l[k]?.getD false = true <;> simp [h]
theorem posOf_length (l : List Bool) (k : Nat) : (posOf l k).length ≤ k := by
  unfold posOf
  rw [List.length_map]
  exact Nat.le_trans (List.length_filter_le _ _) (by simp)
theorem posOf_ok (l : List Bool) (k N : Nat) (h : k ≤ N) : okAt N (posOf l k) = true := by
  unfold okAt posOf
  rw [List.all_eq_true]
  intro z hz
  obtain ⟨i, hi, rfl⟩ := List.mem_map.1 hz
  have := List.mem_range.1 (List.mem_filter.1 hi).1
  simp; omega
theorem flips_pos (l m : List Bool) : ∀ (k i : Nat), (flips l (posOf m k))[i]? = if i < k then l[i]?.map (fun b => b ^^ m[i]?.getD false) else l[i]?
  | 0, i => by simp [posOf, flips]
  | k + 1, i => by
    have ih := flips_pos l m k
    rw [posOf_succ]
    by_cases hb : m[k]?.getD false = true
    · rw [if_pos hb, flips_snoc, flip1_get, Int.toNat_natCast, flips_length, ih]
      by_cases hik : k = i
      · subst hik
        rw [if_pos rfl, if_neg (Nat.lt_irrefl k), if_pos (Nat.lt_succ_self k), hb]
        by_cases hkl : k < l.length
        · rw [if_pos hkl, List.getElem?_eq_getElem hkl]; simp
        · rw [if_neg hkl, List.getElem?_eq_none (by omega)]; rfl
      · rw [if_neg hik]
        by_cases h1 : i < k
        · rw [if_pos h1, if_pos (by omega)]
        · rw [if_neg h1, if_neg (by omega)]
    · rw [if_neg hb, List.append_nil, ih]
      by_cases hik : k = i
      · subst hik
        rw [if_neg (by omega), if_pos (by omega)]
        rw [Bool.not_eq_true] at hb
        rw [hb]; simp
      · by_cases h1 : i < k
        · rw [if_pos h1, if_pos (by omega)]
        · rw [if_neg h1, if_neg (by omega)]
/-- Turned where the other one is 1: the xor. -/
theorem flips_xor (l m : List Bool) (h : l.length = m.length) : flips l (posOf m m.length) = List.zipWith (· ^^ ·) l m := by
  apply List.ext_getElem?
  intro i
  rw [flips_pos, List.getElem?_zipWith]
  by_cases hi : i < m.length
  · rw [if_pos hi, List.getElem?_eq_getElem (l := m) hi, List.getElem?_eq_getElem (l := l) (by omega)]; rfl
  · rw [if_neg hi, List.getElem?_eq_none (l := m) (by omega), List.getElem?_eq_none (l := l) (by omega)]

/-- What a call answers: bits, in memory that it may have made; all that was there stays. -/
def Res1 (w : World) (l : List Bool) (e : Ending) (w' : World) : Prop :=
  ∃ (A : Option Addr) (n c : Nat) (bs : List UInt8), e = .returned (.agg #[.int .i64 (l.length : Nat), .slice A n c]) ∧ n = bs.length ∧ IsBits l bs ∧ l.length ≤ 4096 ∧ Byt w'.heap.size w' A bs ∧ Below w.heap.size w w' ∧ Fresh w.heap.size A bs

set_option maxHeartbeats 4000000 in
theorem xor_any (l m : List Bool) (A B : Option Addr) (n c n' c' : Nat) (bs bs' : List UInt8) (w : World) (hl : l.length ≤ 4096) (hlm : l.length = m.length) (hi : IsBits l bs) (hi' : IsBits m bs') (hn : n = bs.length) (hA : Byt w.heap.size w A bs) (hn' : n' = bs'.length) (hB : Byt w.heap.size w B bs') :
    Calls Tryd.prog 23 #[.agg #[.int .i64 (l.length : Nat), .slice A n c], .agg #[.int .i64 (m.length : Nat), .slice B n' c']] w (Res1 w (List.zipWith (· ^^ ·) l m)) := by
  have hm : n ≤ maxLen := by rw [hn]; exact bytes_small hi hl
  have hm' : n' ≤ maxLen := by rw [hn']; exact bytes_small hi' (by omega)
  have h1 := fun (w1 : World) (h : Below w.heap.size w w1) => list_any (l.length : Nat) A n c bs w1 hn hm (hA.on h)
  have h2 := fun (w1 : World) (h : Below w.heap.size w w1) => list_any (m.length : Nat) B n' c' bs' w1 hn' hm' (hB.on h)
  rw [lst_more hi hl] at h1
  rw [lst_more hi' (by omega)] at h2
  have h3 := fun (w1 : World) (h : Below w.heap.size w w1) (Z : Option Addr) (zc : Nat) (hZ : Ints w1.heap.size w1 Z (posOf m m.length)) => by
    have := rflip_any (l.length : Nat) A Z n c (posOf m m.length).length zc bs (posOf m m.length) w1 hn hm (hA.on h) rfl (by have := posOf_length m m.length; unfold maxLen; omega) hZ
    rw [flip_more hi hl _ (posOf_ok _ _ _ (by omega)), flips_xor l m hlm] at this
    exact this
  generalize List.zipWith (· ^^ ·) l m = X at *
  have H1 := Lib.hid h1; have H2 := Lib.hid h2; have H3 := Lib.hid h3
  have HLM := Lib.hid hlm
  clear h1 h2 h3 hA hB hn hn' hi hi' hlm
  unfold maxLen at hm hm'
  obtain ⟨i0, hi0, hz0, hz1, hz2⟩ := info_parts Tryd.info3
  have k1 : Blk (((w.alloc (.cells #[.int .i64 (l.length : Nat), .slice A n c] 32)).alloc (.cells #[.int .i64 (m.length : Nat), .slice B n' c'] 32)).alloc (.cells #[.int .i64 0, .slice none 0 0] 32)) w.heap.size 32 #[.int .i64 (l.length : Nat), .slice A n c] := ((Blk.new w 32 _).alloc _).alloc _
  have k2 : Blk (((w.alloc (.cells #[.int .i64 (l.length : Nat), .slice A n c] 32)).alloc (.cells #[.int .i64 (m.length : Nat), .slice B n' c'] 32)).alloc (.cells #[.int .i64 0, .slice none 0 0] 32)) (w.heap.size + 1) 32 #[.int .i64 (m.length : Nat), .slice B n' c'] := by
    refine Blk.alloc ?_ _
    simpa using Blk.new (w.alloc (.cells #[.int .i64 (l.length : Nat), .slice A n c] 32)) 32 #[.int .i64 (m.length : Nat), .slice B n' c']
  have k3 : Blk (((w.alloc (.cells #[.int .i64 (l.length : Nat), .slice A n c] 32)).alloc (.cells #[.int .i64 (m.length : Nat), .slice B n' c'] 32)).alloc (.cells #[.int .i64 0, .slice none 0 0] 32)) (w.heap.size + 1 + 1) 32 #[.int .i64 0, .slice none 0 0] := by
    simpa using Blk.new ((w.alloc (.cells #[.int .i64 (l.length : Nat), .slice A n c] 32)).alloc (.cells #[.int .i64 (m.length : Nat), .slice B n' c'] 32)) 32 #[.int .i64 0, .slice none 0 0]
  have bw : Below w.heap.size w (((w.alloc (.cells #[.int .i64 (l.length : Nat), .slice A n c] 32)).alloc (.cells #[.int .i64 (m.length : Nat), .slice B n' c'] 32)).alloc (.cells #[.int .i64 0, .slice none 0 0] 32)) := (((Below.refl _ _).alloc (Nat.le_refl _) _).alloc (by simp) _).alloc (by simp; omega) _
  obtain ⟨p1, q1, r1, s1⟩ := k1.two
  obtain ⟨p2, q2, r2, s2⟩ := k2.two
  go_enter Tryd.func23, Tryd.ntmps23
  go_wp2
  replace k1 := k1.drew; replace k2 := k2.drew; replace k3 := k3.drew; replace bw := bw.drew
  go_region_held3 (fun w' => w'.cell? ⟨w.heap.size, 0, none⟩ = some (.int .i64 (l.length : Nat)) ∧ w'.cell? ⟨w.heap.size, 1, none⟩ = some (.slice A n c) ∧ w'.cell? ⟨w.heap.size + 1, 0, none⟩ = some (.int .i64 (m.length : Nat)) ∧ w'.cell? ⟨w.heap.size + 1, 1, none⟩ = some (.slice B n' c'))
    (first | exact ⟨p1, q1, p2, q2⟩ | exact ⟨p4, q4, p5, q5⟩ | exact ⟨p6, q6, p7, q7⟩)
    (first
      | (have _ := hB1; go_at_call 28; refine (H2.out _ (bw.trans (hB1.mono bw.size))).mono ?_; rintro e w2 ⟨v2, rfl, hown2, hB2⟩; have k6 := k4.on hB2; have k7 := k5.on hB2; obtain ⟨p6, q6, r6, s6⟩ := k6.two; obtain ⟨p7, q7, r7, s7⟩ := k7.two)
      | (go_at_call 28; refine (H1.out _ bw).mono ?_; rintro e w1 ⟨v1, rfl, hown1, hB1⟩; have k4 := k1.on hB1; have k5 := k2.on hB1; obtain ⟨p4, q4, r4, s4⟩ := k4.two; obtain ⟨p5, q5, r5, s5⟩ := k5.two))
  have k8 := (k3.on hB1).on hB2
  replace bw := (bw.trans (hB1.mono bw.size)).trans (hB2.mono (bw.trans (hB1.mono bw.size)).size)
  have hsz : w.heap.size + 3 ≤ w2.heap.size := by have h1 := hB1.size; have h2 := hB2.size; simp at h1; omega
  obtain ⟨V1, vc1, rfl, _⟩ := bools_of_own hown1
  obtain ⟨V2, vc2, rfl, hV2⟩ := bools_of_own hown2
  have HV2 := Lib.hid hV2
  clear hV2 hown1 hown2 p1 q1 r1 s1 p2 q2 r2 s2 p4 q4 r4 s4 p5 q5 r5 s5 p6 q6 r6 s6 p7 q7 r7 s7 k1 k2 k3 k4 k5 hB1 hB2
  go_wp2
  go_loopw [5, 8] (fun zv i wr => ∃ k : Nat, k ≤ m.length ∧ i = .int .i64 k ∧ wr.ownsRow w2.heap.size 3 1 zv (posOf m k).length ((posOf m k).map (Value.int .i64)) ∧ Below w2.heap.size w2 wr)
    (fun _ i _ => m.length - (intOf i).toNat)
  case atStart => exact ⟨0, by omega, rfl, World.ownsRow_nil _ _ _ _, Below.refl _ _⟩
  case round =>
    obtain ⟨k, hk, rfl, hrow, hBr⟩ := hrel
    have hpl := posOf_length m k
    have hsr := hBr.size
    by_cases hlt : k < m.length
    · have hd1 : decide ((k : Int) < (l.length : Int)) = true := by have := HLM.out; simp; omega
      have hd2 : decide ((k : Int) < (m.length : Int)) = true := by simp; omega
      have hd3 : decide (k < l.length) = true := by have := HLM.out; simp; omega
      have hd4 : decide (k < m.length) = true := by simp; omega
      have hps := posOf_succ m k
      obtain ⟨b, off, rfl, hbl, hcell⟩ := (HV2.out.below hBr).at_ hlt
      have hbl2 : b < wr.heap.size := by omega
      have hk4 : k < 4096 := by have := HLM.out; omega
      by_cases hb : m[k]?.getD false = true
      · rw [hb] at hcell
        rw [if_pos hb] at hps
        have HPS := Lib.hid hps
        clear hps hb
        go_wp2_with (at_builtin; refine wpList_append_own _ rfl _ _ 52 rfl w2.heap.size 3 i0 (.int .i64 0) 1 8 Tryd.underlying52 hi0 hz0 hz1 hz2 rfl (by decide) u5 _ _ rfl (hrow.alloc _) ⟨wr.heap.size, 0, none⟩ 1 1 [.int .i64 (k : Int)] rfl rfl (cell_one_new _ _ _) (by simp [Value.oneCell']) (by unfold maxLen; omega) (by omega) (by simp; omega) ?_; intro v' w3 hown' hgrow _)
        go_roundw
        case rel =>
          refine ⟨k + 1, by omega, by go_num, ?_, own_below hrow hgrow hBr (Nat.le_refl _) hBr.size⟩
          rw [HPS.out, List.map_append, List.length_append]
          simpa using hown'
        case measure => simp [intOf]; omega
      · rw [Bool.not_eq_true] at hb
        rw [hb] at hcell
        rw [hb] at hps
        simp only [Bool.false_eq_true, if_false, List.append_nil] at hps
        have HPS := Lib.hid hps
        clear hps hb
        go_wp2
        go_roundw
        case rel => exact ⟨k + 1, by omega, by go_num, by rw [HPS.out]; exact hrow, hBr⟩
        case measure => simp [intOf]; omega
    · obtain rfl : k = m.length := by omega
      have hd1 : decide ((m.length : Int) < (l.length : Int)) = false := by have := HLM.out; simp; omega
      have hd3 : decide (m.length < l.length) = false := by have := HLM.out; simp; omega
      have bwr := bw.trans (hBr.mono bw.size)
      have k9 := k6.on hBr
      have k10 := k8.on hBr
      obtain ⟨p1, q1, r1, s1⟩ := k9.two
      obtain ⟨ZA, zc, rfl, hZA⟩ := ints_of_own hrow
      have hflp := H3.out wr bwr ZA zc hZA
      have HFL := Lib.hid hflp; clear hflp hZA
      have hlt9 := k9.lt
      go_wp2_with fail
      refine HFL.out.mono ?_
      rintro e w3 ⟨A3, n3, c5, bs3, rfl, hn3, his3, hl3, hA3, hB3, hF3⟩
      dsimp only at hn3 his3 hl3 hA3 hB3 hF3
      have HN3 := Lib.hid hn3; clear hn3
      have k11 := (k10.on hB3).on (Below.al w3 (.cells #[.int .i64 (X.length : Nat), .slice A3 n3 c5] 32))
      have y3 := hA3.on (Below.al w3 (.cells #[.int .i64 (X.length : Nat), .slice A3 n3 c5] 32))
      have bw3 := (bwr.trans (hB3.mono bwr.size)).alloc (bwr.trans (hB3.mono bwr.size)).size (.cells #[.int .i64 (X.length : Nat), .slice A3 n3 c5] 32)
      obtain ⟨d1, d2, g1', g2'⟩ := k11.two
      have hlt3 := k11.lt
      have hlt4 := k10.lt
      go_wp2
      exact bodyPost_ret (v := .agg #[.int .i64 X.length, .slice A3 n3 c5]) (by simp [results, Tryd.results23, go_sem, d1, d2]) rfl
        ⟨A3, n3, c5, bs3, rfl, HN3.out, his3, hl3, y3.low2 hF3 (g := w.heap.size + 1 + 1) hlt4 _ _, below_stored bw3 (by omega) _ _, fun a ha hb => Nat.le_trans bwr.size (hF3 a ha hb)⟩
end Go.Proofs.YtlmlbpnjkkfiaaaDoor
