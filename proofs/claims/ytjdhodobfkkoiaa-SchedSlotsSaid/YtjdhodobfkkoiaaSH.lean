/-
  Norm of package sched: spans put together. Condition: a row that can be read, of up to 60 spans.
-/
import Derived.Test.YtjdhodobfkkoiaaSG
namespace Go.Proofs.Ytjdhodobfkkoiaa
open Go.RowKit

/-- Norm, by the document. -/
def normR (l : List Sp) : Int × List Sp := if (l.all fun s => decide (okS s)) = true then (0, normS l) else (60, [])
def ResN (w : World) (r : Int × List Sp) (e : Ending) (w' : World) : Prop :=
  ∃ v, e = .returned (.tuple #[v, .int .i64 r.1]) ∧ w'.ownsRow w.heap.size 23 2 v r.2.length (cellsS r.2) ∧ Below w.heap.size w w'
theorem take_more (l : List Sp) {k : Nat} (h : k < l.length) : l.take (k + 1) = l.take k ++ [l[k]?.getD (0, 0)] := by
  rw [List.take_add_one, List.getElem?_eq_getElem h]; rfl
theorem full_yes {l : List Sp} {k : Nat} {x : Sp} (h : k < l.length) (hx : l[k]?.getD (0, 0) = x) (c : x.1 < x.2) : fullS (l.take (k + 1)) = fullS (l.take k) ++ [x] := by
  rw [take_more l h, hx]; simp [fullS, c]
theorem full_no {l : List Sp} {k : Nat} {x : Sp} (h : k < l.length) (hx : l[k]?.getD (0, 0) = x) (c : ¬ x.1 < x.2) : fullS (l.take (k + 1)) = fullS (l.take k) := by
  rw [take_more l h, hx]; simp [fullS]; omega
theorem full_len (l : List Sp) (k : Nat) : (fullS (l.take k)).length ≤ k := by
  have := List.length_filter_le (fun s : Sp => decide (s.1 < s.2)) (l.take k)
  rw [List.length_take] at this
  unfold fullS; omega
theorem ok_more {l : List Sp} {k : Nat} {x : Sp} (h : k < l.length) (hx : l[k]?.getD (0, 0) = x) (hk : ∀ s ∈ l.take k, okS s) (c : okS x) : ∀ s ∈ l.take (k + 1), okS s := by
  rw [take_more l h, hx]
  intro s hs
  rcases List.mem_append.1 hs with hs | hs
  · exact hk s hs
  · have : s = x := by simpa using hs
    subst this; exact c
theorem normR_no {l : List Sp} {k : Nat} {x : Sp} (h : k < l.length) (hx : l[k]?.getD (0, 0) = x) (c : ¬ okS x) : normR l = (60, []) := by
  unfold normR
  rw [if_neg]
  rw [List.all_eq_true]
  intro ha
  have hm : x ∈ l := by rw [← hx, List.getElem?_eq_getElem h]; exact List.getElem_mem h
  exact c (of_decide_eq_true (ha x hm))
theorem normR_yes {l : List Sp} (h : ∀ s ∈ l, okS s) : normR l = (0, normS l) := by
  unfold normR
  rw [if_pos]
  rw [List.all_eq_true]
  exact fun s hs => decide_eq_true (h s hs)
theorem adds_more {d : List Sp} {k : Nat} {x : Sp} (h : k < d.length) (hx : d[k]?.getD (0, 0) = x) : (d.take (k + 1)).foldl addS [] = addS ((d.take k).foldl addS []) x := by
  rw [take_more d h, hx, List.foldl_append]; rfl
theorem own_setTo {w : World} {base g n cap : Nat} {K : List Sp} {z : Sp} (h : w.ownsRow base 23 2 (.slice (some ⟨g, 0, none⟩) n cap) n (cellsS (K ++ [z]))) (y : Int) :
    (w.setCell ⟨g, K.length * 2 + 1, none⟩ (.int .i64 y)).ownsRow base 23 2 (.slice (some ⟨g, 0, none⟩) n cap) n (cellsS (K ++ [(z.1, y)])) := by
  have e : cellsS (K ++ [(z.1, y)]) = (cellsS (K ++ [z])).set (K.length * 2 + 1) (.int .i64 y) := by
    have h0 := cellsS_length K
    rw [cellsS_append, cellsS_append, List.set_append_right _ _ (by omega), h0, show K.length * 2 + 1 - K.length * 2 = 1 by omega]
    rfl
  refine ⟨by rw [e, List.length_set]; exact h.1, ?_⟩
  rcases h.2 with ⟨h1, _⟩ | ⟨g', cap', cur, h1, hb, hh, hc, hm, hsz, htk⟩
  · cases h1
  · injection h1 with h1 _ h3
    injection h1 with h1
    injection h1 with h1
    subst h1; subst h3
    have hblk : Blk w g 23 cur := hh
    refine .inr ⟨g, cap, _, rfl, hb, hblk.set_ (K.length * 2 + 1) (.int .i64 y), hc, hm, by simpa using hsz, ?_⟩
    rw [e, ← htk]
    simp [List.take_set]
theorem own_last {w : World} {base g n cap : Nat} {K : List Sp} {z : Sp} (h : w.ownsRow base 23 2 (.slice (some ⟨g, 0, none⟩) n cap) n (cellsS (K ++ [z]))) :
    w.cell? ⟨g, K.length * 2 + 1, none⟩ = some (.int .i64 z.2) ∧ w.frozen? ⟨g, K.length * 2 + 1, none⟩ = false ∧ base ≤ g ∧ g < w.heap.size := by
  obtain ⟨_, h1⟩ := cellsS_get (K ++ [z]) K.length (by simp)
  have c1 := h.cells (g := g) rfl _ _ h1
  rw [addr_add, Nat.zero_add] at c1
  rcases h.2 with ⟨hv, _⟩ | ⟨g', cap', cur, hv, hb, hh, _⟩
  · cases hv
  · injection hv with hv _ _
    injection hv with hv
    injection hv with hv
    subst hv
    have hblk : Blk w g 23 cur := hh
    refine ⟨?_, hblk.frozen _, hb, hblk.lt⟩
    rw [c1]; simp

set_option maxRecDepth 8000 in
set_option maxHeartbeats 4000000 in
theorem norm_any (A : Option Addr) (n c : Nat) (l : List Sp) (w : World) (hn : n = l.length) (hm : n ≤ 60) (hA : Smps w.heap.size w A l) :
    Calls Try.prog 20 #[.slice A n c] w (ResN w (normR l)) := by
  obtain ⟨RR, hRR⟩ : ∃ RR, RR = normR l := ⟨_, rfl⟩
  rw [← hRR]
  have HRR := Lib.hid hRR; clear hRR
  have HN := Lib.hid hn; have HA := Lib.hid hA
  clear hn hA
  obtain ⟨i0, hi, hz0, hz1, hz2⟩ := info_parts Try.infoSp
  have HCK := Lib.hid (fun (x y : Int) (W : World) => scheck_any x y W)
  go_enter Try.func20, Try.ntmps20
  go_wp2
  go_loopw [4, 13] (fun ov i wr => ∃ k : Nat, k ≤ n ∧ i = .int .i64 k ∧ (∀ s ∈ l.take k, okS s) ∧ wr.ownsRow w.heap.size 23 2 ov (fullS (l.take k)).length (cellsS (fullS (l.take k))) ∧ Below w.heap.size w wr)
    (fun _ i _ => n - (intOf i).toNat)
  case atStart => exact ⟨0, by omega, rfl, fun s h => by simp at h, World.ownsRow_nil _ _ _ _, Below.refl _ _⟩
  case round =>
    obtain ⟨k, hk, rfl, hok, hrow, bc⟩ := hrel
    have HOK := Lib.hid hok; clear hok
    have hfl := full_len l k
    by_cases hlt : k < n
    · have hkl : k < l.length := by have := HN.out; omega
      obtain ⟨b, off, rfl, hbl, hc0, hc1⟩ := (HA.out.below bc).at_ hkl
      have hbs : b < wr.heap.size := Nat.lt_of_lt_of_le hbl bc.size
      obtain ⟨x, hx⟩ : ∃ x, l[k]?.getD (0, 0) = x := ⟨_, rfl⟩
      rw [hx] at hc0 hc1
      have hfy := full_yes hkl hx
      have hfn := full_no hkl hx
      have hom := ok_more hkl hx HOK.out
      have hno := normR_no hkl hx
      obtain ⟨u, v⟩ := x
      dsimp only at hc0 hc1 hfy hfn
      generalize fullS (l.take k) = fl at *
      have HFY := Lib.hid hfy; have HFN := Lib.hid hfn; have HOM := Lib.hid hom; have HNO := Lib.hid hno
      clear hfy hfn hom hno hkl hx
      have hck := HCK.out u v
      simp only [chkS_if] at hck
      have kx := Blk.new wr 23 #[.int .i64 u, .int .i64 v]
      have al := Below.al wr (.cells #[.int .i64 u, .int .i64 v] 23)
      replace hrow := own_on hrow al
      replace bc := bc.trans (al.mono bc.size)
      by_cases hx : okS (u, v)
      · simp only [hx, if_true] at hck
        have ho := HOM.out hx
        have HCK2 := Lib.hid hck; have HO := Lib.hid ho; clear hck ho hx al
        go_wp2_with fail
        generalize wr.alloc (.cells #[.int .i64 u, .int .i64 v] 23) = w1 at *
        refine (HCK2.out _).mono ?_
        rintro e w2 ⟨rfl, hC⟩
        dsimp only
        replace kx := kx.on hC
        replace hrow := own_on hrow hC
        replace bc := bc.trans (hC.mono bc.size)
        clear hC
        obtain ⟨x0, x1, -, -⟩ := kx.two
        have hz := kx.lt
        have hb2 := bc.size
        by_cases huv : u < v
        · have d1 : decide (u < v) = true := by simpa using huv
          have hf := HFY.out huv
          have HF := Lib.hid hf; clear hf
          go_wp2_with (at_builtin; refine wpList_append_own _ rfl _ _ 31 rfl w.heap.size 23 i0 (.agg #[.int .i64 0, .int .i64 0]) 2 16 Try.underlying31 hi hz0 hz1 hz2 rfl (by decide) u4 _ _ rfl (hrow.alloc _) ⟨w2.heap.size, 0, none⟩ 1 1 [.int .i64 u, .int .i64 v] rfl rfl (cell_two_new _ _ _ _) (by simp [Value.oneCell']) (by unfold maxLen; omega) (by omega) (by simp; omega) ?_; intro v3 w3 hown3 hgrow3 _)
          go_roundw
          case rel =>
            refine ⟨k + 1, by omega, by go_num, HO.out, ?_, own_below hrow hgrow3 bc (Nat.le_refl _) bc.size⟩
            rw [HF.out, cellsS_snoc, List.length_append]; exact hown3
          case measure => simp [intOf]; omega
        · have d1 : decide (u < v) = false := by simpa using huv
          have hf := HFN.out (by omega)
          have HF := Lib.hid hf; clear hf
          go_wp2
          go_roundw
          case rel =>
            refine ⟨k + 1, by omega, by go_num, HO.out, ?_, bc⟩
            rw [HF.out]; exact hrow
          case measure => simp [intOf]; omega
      · simp only [hx, if_false] at hck
        have hr : RR = (60, []) := by rw [HRR.out]; exact HNO.out hx
        subst hr
        have HCK2 := Lib.hid hck; clear hck hx al
        go_wp2_with fail
        generalize wr.alloc (.cells #[.int .i64 u, .int .i64 v] 23) = w1 at *
        refine (HCK2.out _).mono ?_
        rintro e w2 ⟨rfl, hC⟩
        dsimp only
        replace bc := bc.trans (hC.mono bc.size)
        go_wp2
        go_ret2
        exact ⟨_, rfl, World.ownsRow_nil _ _ _ _, bc⟩
    · obtain rfl : k = n := by omega
      have htk : l.take k = l := List.take_of_length_le (by have := HN.out; omega)
      have hok2 := HOK.out
      rw [htk] at hok2 hrow hfl
      have hr : RR = (0, normS l) := by rw [HRR.out]; exact normR_yes hok2
      subst hr
      clear htk hok2 HOK HRR
      have hps := fun (m : List Sp) => norm_sorted (l := l) (m := m)
      generalize fullS l = fl at *
      have HPS := Lib.hid hps; clear hps
      have hsz := bc.size
      -- the row as a slice; sorted
      have key : ∃ FA fc, u4 = .slice FA fl.length fc ∧ (∀ (W : World), W = wr → Calls Try.prog 40 #[.slice FA fl.length fc, .func (.func 41) #[] #[]] W fun e w' => e = .returned (.tuple #[]) ∧ ∃ d' : List Sp, (∀ s, s ∈ d' ↔ s ∈ fl) ∧ d'.Pairwise (fun a b => a.1 ≤ b.1) ∧ d'.length = fl.length ∧ Smps w'.heap.size w' FA d' ∧ Below w.heap.size wr w') := by
        by_cases h0 : fl = []
        · subst h0
          have hsn := fun FA fc => AnyF.slices_SortFunc_none (P := Try.prog) Try.sortSp FA fc (.func (.func 41) #[] #[]) wr
          rcases hrow.2 with ⟨rfl, _⟩ | ⟨g, cap, cur, rfl, _⟩
          · exact ⟨none, 0, rfl, fun W hW => by subst hW; exact (hsn none 0).mono fun e w' ⟨he, hw⟩ => ⟨he, [], fun s => Iff.rfl, List.Pairwise.nil, rfl, fun h => absurd rfl h, by rw [hw]; exact Below.refl _ _⟩⟩
          · exact ⟨_, cap, rfl, fun W hW => by subst hW; exact (hsn _ cap).mono fun e w' ⟨he, hw⟩ => ⟨he, [], fun s => Iff.rfl, List.Pairwise.nil, rfl, fun h => absurd rfl h, by rw [hw]; exact Below.refl _ _⟩⟩
        · rcases hrow.2 with ⟨_, h1⟩ | ⟨g, cap, cur, rfl, _⟩
          · exact absurd (List.eq_nil_of_length_eq_zero h1) h0
          · exact ⟨_, cap, rfl, fun W hW => by subst hW; exact sort_any g cap w.heap.size fl W hrow (by omega)⟩
      obtain ⟨FA, fc, rfl, hsort⟩ := key
      have HSO := Lib.hid (hsort wr rfl); clear hsort hrow
      go_wp2_with fail
      refine HSO.out.mono ?_
      rintro e w1 ⟨rfl, d, hd1, hd2, hd3, hS, hC⟩
      dsimp only
      have hR := HPS.out d hd1 hd2
      replace bc := bc.trans hC
      have HR := Lib.hid hR; have HS := Lib.hid hS; have HD := Lib.hid hd3; have BC := Lib.hid bc
      clear hR hS hd1 hd2 hd3 bc hC HSO
      go_wp2
      go_loopw [7, 34] (fun ov i wr => ∃ k : Nat, k ≤ fl.length ∧ i = .int .i64 k ∧ wr.ownsRow w1.heap.size 23 2 ov ((d.take k).foldl addS []).length (cellsS ((d.take k).foldl addS [])) ∧ Below w1.heap.size w1 wr)
        (fun _ i _ => fl.length - (intOf i).toNat)
      case atStart => exact ⟨0, by omega, rfl, World.ownsRow_nil _ _ _ _, Below.refl _ _⟩
      case round =>
        obtain ⟨k2, hk2, rfl, hrow, bc⟩ := hrel
        have hb1 := bc.size
        by_cases hlt2 : k2 < fl.length
        · have hkd : k2 < d.length := by have := HD.out; omega
          obtain ⟨b, off, rfl, hbl, hc0, hc1⟩ := (HS.out.below bc).at_ hkd
          have hbs : b < wr.heap.size := Nat.lt_of_lt_of_le hbl bc.size
          obtain ⟨x, hx⟩ : ∃ x, d[k2]?.getD (0, 0) = x := ⟨_, rfl⟩
          rw [hx] at hc0 hc1
          have hmore := adds_more hkd hx
          have hlen := adds_length (d.take k2) []
          rw [List.length_take] at hlen
          obtain ⟨u, v⟩ := x
          dsimp only at hc0 hc1
          generalize (d.take k2).foldl addS [] = out at *
          have hlen2 : out.length ≤ k2 := by simp at hlen; omega
          have HM := Lib.hid hmore; clear hmore hx hkd hlen
          have hrx := hrow.alloc (.cells #[.int .i64 u, .int .i64 v] 23)
          have bx := bc.alloc bc.size (.cells #[.int .i64 u, .int .i64 v] 23)
          have zx : (wr.alloc (.cells #[.int .i64 u, .int .i64 v] 23)).heap.size = wr.heap.size + 1 := by simp
          have ZX := Lib.hid zx; have BX := Lib.hid bx; clear zx bx
          rcases snoc_cases out with rfl | ⟨K, z, rfl⟩
          · obtain ⟨OA, oc, rfl⟩ : ∃ OA oc, u7 = .slice OA 0 oc := by
              rcases hrow.2 with ⟨h1, _⟩ | ⟨g, cap, cur, h1, _⟩
              · exact ⟨none, 0, h1⟩
              · exact ⟨_, cap, h1⟩
            have ha : addS [] (u, v) = [] ++ [(u, v)] := rfl
            rw [ha] at HM
            go_wp2
            go_quiet (fail)
            go_wp2_with (at_builtin; refine wpList_append_own _ rfl _ _ 31 rfl w1.heap.size 23 i0 (.agg #[.int .i64 0, .int .i64 0]) 2 16 Try.underlying31 hi hz0 hz1 hz2 rfl (by decide) (.slice OA 0 oc) _ _ rfl (hrx.alloc _) ⟨wr.heap.size + 1, 0, none⟩ 1 1 [.int .i64 u, .int .i64 v] rfl rfl (by have := cell_two_new (wr.alloc (.cells #[.int .i64 u, .int .i64 v] 23)) (.int .i64 u) (.int .i64 v) 23; rw [ZX.out] at this; exact this) (by simp [Value.oneCell']) (by unfold maxLen; omega) (by omega) (by simp; omega) ?_; intro v3 w3 hown3 hgrow3 _)
            go_roundw
            case rel =>
              refine ⟨k2 + 1, by omega, by go_num, ?_, own_below (w := (wr.alloc _).drewN _) hrx hgrow3 (below_drewN BX.out _) (Nat.le_refl _) BX.out.size⟩
              rw [HM.out, cellsS_snoc, List.length_append]; exact hown3
            case measure => simp [intOf]; omega
          · obtain ⟨N, hN⟩ : ∃ N, N = K.length := ⟨_, rfl⟩
            have hlz : (K ++ [z]).length = N + 1 := by rw [hN]; simp
            have hsn := addS_snoc K z (u, v)
            obtain ⟨zf, zt⟩ := z
            dsimp only at hsn
            rw [hlz] at hrow hrx hlen2
            rw [hsn] at HM
            obtain ⟨g, cap, rfl⟩ : ∃ g cap, u7 = .slice (some ⟨g, 0, none⟩) (N + 1) cap := by
              rcases hrow.2 with ⟨_, h1⟩ | ⟨g, cap, cur, h1, _⟩
              · omega
              · exact ⟨g, cap, h1⟩
            obtain ⟨q1, q2, q3, q4⟩ := own_last hrow
            have hst := fun (q : Nat) (y : Int) => own_setTo (w := (wr.alloc (.cells #[.int .i64 u, .int .i64 v] 23)).drewN q) (base := w1.heap.size) (g := g) (n := N + 1) (cap := cap) (K := K) (z := (zf, zt)) hrx y
            rw [← hN] at q1 q2
            simp only [← hN] at hst
            have HST := Lib.hid hst; clear hst hsn
            have HN2 := Lib.hid hN; have HLZ := Lib.hid hlz; clear hN hlz
            have hw1 : IntKind.i64.wrap (((N + 1 : Nat) : Int) - 1) = (N : Int) := by rw [IntWalk.i64_in _ (by omega)]; omega
            have hw2 : IntKind.i64.wrap ((N : Int) + 1 - 1) = (N : Int) := by rw [IntWalk.i64_in _ (by omega)]; omega
            have hne : g ≠ b := by omega
            have hN0 : (0 : Int) ≤ (N : Int) := by omega
            by_cases hle : u ≤ zt
            · rw [if_pos hle] at HM
              have d1 : decide (u ≤ zt) = true := by simpa using hle
              go_wp2
              go_quiet (fail)
              go_wp2
              go_region
              go_wp2
              go_roundw
              case rel =>
                refine ⟨k2 + 1, by omega, by go_num, ?_, (below_drewN BX.out _).setCell (by dsimp only; omega) _⟩
                rw [HM.out, show (K ++ [((zf, zt).1, max (zf, zt).2 (u, v).2)]).length = N + 1 by rw [HN2.out]; simp]
                exact HST.out _ _
              case measure => simp [intOf]; omega
            · rw [if_neg hle] at HM
              have d1 : decide (u ≤ zt) = false := by simpa using hle
              go_wp2
              go_quiet (fail)
              go_wp2_with (at_builtin; refine wpList_append_own _ rfl _ _ 31 rfl w1.heap.size 23 i0 (.agg #[.int .i64 0, .int .i64 0]) 2 16 Try.underlying31 hi hz0 hz1 hz2 rfl (by decide) (.slice (some ⟨g, 0, none⟩) (N + 1) cap) _ _ rfl (hrx.alloc _) ⟨wr.heap.size + 1, 0, none⟩ 1 1 [.int .i64 u, .int .i64 v] rfl rfl (by have := cell_two_new (wr.alloc (.cells #[.int .i64 u, .int .i64 v] 23)) (.int .i64 u) (.int .i64 v) 23; rw [ZX.out] at this; exact this) (by simp [Value.oneCell']) (by unfold maxLen; omega) (by omega) (by simp; omega) ?_; intro v3 w3 hown3 hgrow3 _)
              go_roundw
              case rel =>
                refine ⟨k2 + 1, by omega, by go_num, ?_, own_below (w := (wr.alloc _).drewN _) hrx hgrow3 (below_drewN BX.out _) (Nat.le_refl _) BX.out.size⟩
                rw [HM.out, cellsS_snoc, List.length_append, HLZ.out]; exact hown3
              case measure => simp [intOf]; omega
        · obtain rfl : k2 = fl.length := by omega
          have htk : d.take fl.length = d := List.take_of_length_le (by have := HD.out; omega)
          rw [htk, HR.out] at hrow
          clear htk
          go_wp2
          go_ret2
          exact ⟨u7, rfl, own_mono hrow BC.out.size, BC.out.trans (bc.mono BC.out.size)⟩
end Go.Proofs.Ytjdhodobfkkoiaa
