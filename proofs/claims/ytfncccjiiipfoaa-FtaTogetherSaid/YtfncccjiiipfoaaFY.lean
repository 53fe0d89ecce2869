/-
  The law of clocks that come together. Conditions: those that the theorem names.
-/
import Derived.Test.YtfncccjiiipfoaaFX
namespace Go.Proofs.Ytfncccjiiipfoaa
open Go.RowKit

set_option maxRecDepth 8000 in
set_option maxHeartbeats 4000000 in
theorem together_law (A X : Option Addr) (n c xn xc : Nat) (cs : List Int) (rs : List RJ) (w : World) (hn : n = cs.length) (hm : n ≤ maxLen) (hA : Ints w.heap.size w A cs) (hx : xn = rs.length) (hxm : xn ≤ maxLen) (hX : RowsJ w.heap.size w X rs) :
    Calls Try.prog 7 #[.slice A n c, .slice X xn xc] w fun e w' => e = .returned (.bool true) ∧ Below w.heap.size w w' := by
  have hin := fun w1 (h : Below w.heap.size w w1) => (hA.below h).mono h.size
  have hxn := fun w1 (h : Below w.heap.size w w1) => (hX.below h).mono h.size
  have h1 := fun w1 (h : Below w.heap.size w w1) => round_any A X n c xn xc cs rs w1 hn hm (hin w1 h) hx hxm (hxn w1 h)
  have h3 := settle_any A n c cs 1 w hn hm hA
  have l1 := roundS_length cs (rs.map RJ.l)
  have l2 := settleS_length cs 1
  have hs := settle_one (cs := cs)
  have hrn := fun e he => round_near (cs := cs) (rows := rs.map RJ.l) (e := e) he
  have hok := roundS_ok (cs := cs) (rows := rs.map RJ.l)
  have hqp : (roundS cs (rs.map RJ.l)).2 = 0 → (settleS cs 1).2 = 0 := fun h => by
    obtain ⟨g1, g2, g3, -⟩ := hok h
    rw [settleS_fit ⟨by omega, by omega, g1, g2⟩ g3]
  have hrow := fun k (hk : k < xn) => hX.row (k := k) (by omega)
  have hxl : (rs.map RJ.l).length = xn := by rw [List.length_map]; exact hx.symm
  unfold roundV at h1 h3
  rw [← hn] at hs
  clear hin hxn hA hX hn hx
  generalize rs.map RJ.l = rows at *
  generalize roundS cs rows = p at *
  obtain ⟨p1, p2⟩ := p
  generalize settleS cs 1 = q at *
  obtain ⟨q1, q2⟩ := q
  dsimp only at *
  have s1 := fun (A : Option Addr) (c : Nat) w1 (ha : Ints w1.heap.size w1 A p1) => spread_any A p1.length c p1 w1 rfl (by omega) ha
  have s2 := fun (A : Option Addr) (c : Nat) w1 (ha : Ints w1.heap.size w1 A q1) => spread_any A q1.length c q1 w1 rfl (by omega) ha
  generalize hpn : p1.length = pn at *
  generalize hqn : q1.length = qn at *
  generalize spreadS p1 = S at *
  generalize spreadS q1 = T at *
  have H1 := Lib.hid h1; have H3 := Lib.hid h3; have HS1 := Lib.hid s1; have HS2 := Lib.hid s2; have HRN := Lib.hid hrn; have HOK := Lib.hid hok; have HROW := Lib.hid hrow; have HXL := Lib.hid hxl
  clear h1 h3 s1 s2 l1 l2 hrn hok hrow hpn hqn hxl
  have hB := Below.refl w.heap.size w
  by_cases a0 : q2 = 0
  · subst a0
    obtain ⟨rfl, t1, t2⟩ := hs rfl
    obtain rfl : T = 0 := by omega
    have e0 : wrap64 0 = 0 := IntWalk.wrap64_in _ (by omega)
    clear hs t1 t2 hqp
    by_cases b0 : p2 = 0
    · subst b0
      go_enter Try.func7, Try.ntmps7
      go_wp2_with (first
        | (go_at_call 21; refine H3.out.mono ?_; rintro e w1 ⟨B3, d3, rfl, hI3, hC⟩; replace hB := hB.trans (hC.mono hB.size); clear hC)
        | (go_at_call 15; refine (begun_any _).mono ?_; rintro e w1 ⟨rfl, hC⟩; replace hB := hB.trans (hC.mono hB.size); replace hI3 := (hI3.below hC).mono hC.size; clear hC)
        | (go_at_call 16; refine (HS2.out _ _ _ hI3).mono ?_; rintro e w1 ⟨rfl, rfl⟩; clear hI3)
        | (go_at_call 19; refine (H1.out _ hB).mono ?_; rintro e w2 ⟨B1, d1, rfl, hI1, hC⟩; replace hB := hB.trans (hC.mono hB.size); clear hC))
      have hoff := (HOK.out (by trivial)).2.2.2.1
      have hbd : ∀ r ∈ rows, ∀ y ∈ r, -274877906944 ≤ y ∧ y ≤ 274877906944 := fun r hr => offS_in (by rw [List.any_eq_false] at hoff; have := hoff r hr; simpa using this)
      have HBD := Lib.hid hbd
      clear hoff hbd HOK
      unfold maxLen at hxm
      obtain ⟨wo, hwo⟩ : ∃ wo, wo = w2 := ⟨_, rfl⟩
      subst hwo
      go_loopw [8, 10, 46] (fun mv _ i wr => ∃ (k : Nat) (e : Int), k ≤ xn ∧ i = .int .i64 k ∧ mv = .int .i64 e ∧ 0 ≤ e ∧ e ≤ 274877906944 ∧ (∀ r ∈ rows.take k, ∀ y ∈ r, -e ≤ y ∧ y ≤ e) ∧ wr = wo) (fun _ _ i _ => xn - (intOf i).toNat)
      case atStart => exact ⟨0, 0, by omega, rfl, rfl, by omega, by omega, (fun r hr => by simp at hr), rfl⟩
      case round =>
        obtain ⟨k, e, hk, rfl, rfl, he0, he1, hall, rfl⟩ := hrel
        have HALL := Lib.hid hall; clear hall
        by_cases hlt : k < xn
        · obtain ⟨bx, ox, y, rfl, hbx, hcx, hyok, hyr⟩ := HROW.out k hlt
          have hcx2 := (hB.cell (p := ⟨bx, ox + k, none⟩) hbx).trans hcx
          have hbxw : bx < wr.heap.size := Nat.lt_of_lt_of_le hbx hB.size
          have hyi := hyok.2.2.below hB
          have hyn := hyok.1
          have hym := hyok.2.1
          have hyb := HBD.out _ (List.mem_of_getElem? hyr)
          have htk : rows.take (k + 1) = rows.take k ++ [y.l] := by
            obtain ⟨h1, h2⟩ := List.getElem?_eq_some_iff.1 hyr
            rw [List.take_add_one, hyr]; rfl
          clear hcx hyok hyr
          obtain ⟨Ay, ny, cy, ly⟩ := y
          dsimp only at *
          unfold maxLen at hym
          have HYI := Lib.hid hyi; have HYN := Lib.hid hyn; have HYB := Lib.hid hyb; have HTK := Lib.hid htk
          clear hyi hyn hyb htk
          go_wp2
          clear hcx2
          go_loopw [8, 12, 52] (fun mv _ i wi => ∃ (j : Nat) (e2 : Int), j ≤ ny ∧ i = .int .i64 j ∧ mv = .int .i64 e2 ∧ e ≤ e2 ∧ e2 ≤ 274877906944 ∧ (∀ z ∈ ly.take j, -e2 ≤ z ∧ z ≤ e2) ∧ wi = wr) (fun _ _ i _ => ny - (intOf i).toNat)
          case atStart => exact ⟨0, e, by omega, rfl, rfl, by omega, by omega, (fun z hz => by simp at hz), rfl⟩
          case round =>
            obtain ⟨j, e2, hj, rfl, rfl, hee, he2, hal2, rfl⟩ := hrel
            have HAL2 := Lib.hid hal2; clear hal2
            by_cases hjl : j < ny
            · have hjy : j < ly.length := by have := HYN.out; omega
              obtain ⟨b2, o2, rfl, hb2, hc2⟩ := HYI.out.nAt (k := j) hjy
              have hb2w : b2 < wr.heap.size := Nat.lt_of_lt_of_le hb2 hB.size
              have hzb := HYB.out _ (nth_mem hjy)
              have htk := take_nth ly j hjy
              generalize nth ly j = v at *
              have ev : IntKind.i64.wrap (-v) = -v := IntWalk.i64_in _ (by omega)
              have HTJ := Lib.hid htk; clear htk hjy
              go_wp2
              go_roundw
              case rel =>
                refine ⟨j + 1, max (max e2 v) (-v), by omega, by go_num, by rw [← max_if, ← max_if], by omega, by omega, fun z hz => ?_, by trivial⟩
                rw [HTJ.out] at hz
                rcases List.mem_append.1 hz with hz | hz
                · have := HAL2.out z hz; omega
                · obtain rfl := List.mem_singleton.1 hz; omega
              case measure => simp [intOf]; omega
            · obtain rfl : j = ny := by omega
              go_wp2
              go_roundw
              case rel =>
                refine ⟨k + 1, e2, by omega, by go_num, rfl, by omega, by omega, fun r hr z hz => ?_, by trivial⟩
                rw [HTK.out] at hr
                rcases List.mem_append.1 hr with hr | hr
                · have := HALL.out r hr z hz; omega
                · obtain rfl := List.mem_singleton.1 hr
                  exact HAL2.out z (by rw [List.take_of_length_le (by have := HYN.out; omega)]; exact hz)
              case measure => simp [intOf]; omega
        · obtain rfl : k = xn := by omega
          have hfin := HRN.out e he0 (by trivial) (by have := HALL.out; rwa [List.take_of_length_le (by rw [HXL.out]; exact Nat.le_refl _)] at this)
          have e4 : wrap64 S = S := IntWalk.wrap64_in _ (by omega)
          have e5 : IntKind.i64.wrap (2 * e) = 2 * e := IntWalk.i64_in _ (by omega)
          have e6 : IntKind.i64.wrap (2 * e + 1) = 2 * e + 1 := IntWalk.i64_in _ (by omega)
          have e7 : decide (S ≤ 2 * e + 1) = true := by simp; omega
          clear hfin
          go_wp2_with (go_at_call 16; refine (HS1.out _ _ _ hI1).mono ?_; rintro e w1 ⟨rfl, rfl⟩)
          go_ret
          exact ⟨rfl, hB⟩
    · have b1 : (p2 == 0) = false := by simpa using b0
      have b2 : (p2 != 0) = true := by simpa using b0
      have b3 : decide (p2 = 0) = false := by simpa using b0
      clear b0
      go_enter Try.func7, Try.ntmps7
      go_wp2_with (first
        | (go_at_call 21; refine H3.out.mono ?_; rintro e w1 ⟨B3, d3, rfl, hI3, hC⟩; replace hB := hB.trans (hC.mono hB.size); clear hC)
        | (go_at_call 15; refine (begun_any _).mono ?_; rintro e w1 ⟨rfl, hC⟩; replace hB := hB.trans (hC.mono hB.size); replace hI3 := (hI3.below hC).mono hC.size; clear hC)
        | (go_at_call 16; refine (HS2.out _ _ _ hI3).mono ?_; rintro e w1 ⟨rfl, rfl⟩; clear hI3)
        | (go_at_call 19; refine (H1.out _ hB).mono ?_; rintro e w2 ⟨B1, d1, rfl, hI1, hC⟩; replace hB := hB.trans (hC.mono hB.size); clear hC))
      go_ret
      exact ⟨rfl, hB⟩
  · have b1 : (q2 == 0) = false := by simpa using a0
    have b2 : (q2 != 0) = true := by simpa using a0
    have b3 : decide (q2 = 0) = false := by simpa using a0
    have b0 : ¬ p2 = 0 := fun h => a0 (hqp h)
    have f1 : (p2 == 0) = false := by simpa using b0
    have f2 : (p2 != 0) = true := by simpa using b0
    have f3 : decide (p2 = 0) = false := by simpa using b0
    clear a0 b0 hqp hs
    go_enter Try.func7, Try.ntmps7
    go_wp2_with (first
      | (go_at_call 21; refine H3.out.mono ?_; rintro e w1 ⟨B3, d3, rfl, hI3, hC⟩; replace hB := hB.trans (hC.mono hB.size); clear hC)
      | (go_at_call 15; refine (begun_any _).mono ?_; rintro e w1 ⟨rfl, hC⟩; replace hB := hB.trans (hC.mono hB.size); replace hI3 := (hI3.below hC).mono hC.size; clear hC)
      | (go_at_call 19; refine (H1.out _ hB).mono ?_; rintro e w2 ⟨B1, d1, rfl, hI1, hC⟩; replace hB := hB.trans (hC.mono hB.size); clear hC))
    go_ret
    exact ⟨rfl, hB⟩
end Go.Proofs.Ytfncccjiiipfoaa
