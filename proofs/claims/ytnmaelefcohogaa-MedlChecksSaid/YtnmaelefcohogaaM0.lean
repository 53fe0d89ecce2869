/-
  Plain of package medl, and the document's own, for any numbers. No condition. (Printed by tools/gen07m0.py.)
-/
import Derived.Test.YtnmaelefcohogaaMZ
namespace Go.Proofs.Ytnmaelefcohogaa
open Go.RowKit

def zeroM : ML := ⟨0, 0, 0, 0, 0, 0, [], []⟩
def plainIs (n d : Int) : Prop := (4 ≤ n ∧ n ≤ 8) ∧ 0 ≤ d ∧ d ≤ 64
instance (n d : Int) : Decidable (plainIs n d) := by unfold plainIs; infer_instance
/-- Plain, by the document. -/
def plainOf (n d : Int) : ML := if plainIs n d then plainM n.toNat d else zeroM
def plainEr (n d : Int) : Int := if plainIs n d then 0 else 2
theorem med_zero (w : World) : Med w zeroM ⟨none, 0, 0⟩ ⟨none, 0, 0⟩ := ⟨fun h => absurd rfl h, rfl, Nat.zero_le _, fun h => absurd rfl h, rfl, Nat.zero_le _⟩
/-- What Plain answers. -/
def PlR (w : World) (n d : Int) (e : Ending) (w' : World) : Prop := ∃ c s : Slc, e = .returned (.tuple #[vM (plainOf n d) c s, .int .i64 (plainEr n d)]) ∧ Med w' (plainOf n d) c s ∧ Below w.heap.size w w'
theorem pl_bad {w w' : World} {n d : Int} (h : ¬ plainIs n d) (hb : Below w.heap.size w w') : PlR w n d (.returned (.tuple #[.agg #[.int .i64 0, .int .i64 0, .int .i64 0, .int .i64 0, .int .i64 0, .int .i64 0, .slice none 0 0, .slice none 0 0], .int .i64 2])) w' := by
  refine ⟨⟨none, 0, 0⟩, ⟨none, 0, 0⟩, ?_, ?_, hb⟩
  · unfold plainOf plainEr; rw [if_neg h, if_neg h]; rfl
  · unfold plainOf; rw [if_neg h]; exact med_zero _
set_option maxRecDepth 100000 in
set_option maxHeartbeats 4000000 in
theorem rplain_any (n d : Int) (w : World) : Calls Try.prog 9 #[.int .i64 n, .int .i64 d] w (PlR w n d) := by
  by_cases hg : plainIs n d
  · obtain ⟨⟨g0, g1⟩, g2, g3⟩ := hg
    obtain ⟨m, rfl⟩ := Int.eq_ofNat_of_zero_le (show 0 ≤ n by omega)
    have hg : plainIs (m : Int) d := ⟨⟨g0, g1⟩, g2, g3⟩
    have ho : plainOf (m : Int) d = plainM m d := by unfold plainOf; rw [if_pos hg, Int.toNat_natCast]
    have he : plainEr (m : Int) d = 0 := if_pos hg
    unfold PlR; rw [ho, he]
    exact rplain_good m d w (by omega) (by omega) g2 g3
  obtain ⟨kr, bc⟩ := bx1 w #[.int .i64 0, .int .i64 0, .int .i64 0, .int .i64 0, .int .i64 0, .int .i64 0, .slice none 0 0, .slice none 0 0] 25
  obtain ⟨p0, p1, p2, p3, p4, p5, p6, p7⟩ := kr.eight
  by_cases c1 : n < 4
  · have d_c1 : decide (n < 4) = true := by simpa using c1
    go_enter Try.func9, Try.ntmps9
    go_wp2_with fail
    refine bodyPost_ret (v := .tuple #[.agg #[.int .i64 0, .int .i64 0, .int .i64 0, .int .i64 0, .int .i64 0, .int .i64 0, .slice none 0 0, .slice none 0 0], .int .i64 2]) (by simp [results, Try.results9, go_sem, p0, p1, p2, p3, p4, p5, p6, p7]) rfl ?_
    exact pl_bad hg bc
  have d_c1 : decide (n < 4) = false := by simpa using c1
  by_cases c2 : 8 < n
  · have d_c2 : decide (8 < n) = true := by simpa using c2
    go_enter Try.func9, Try.ntmps9
    go_wp2_with fail
    refine bodyPost_ret (v := .tuple #[.agg #[.int .i64 0, .int .i64 0, .int .i64 0, .int .i64 0, .int .i64 0, .int .i64 0, .slice none 0 0, .slice none 0 0], .int .i64 2]) (by simp [results, Try.results9, go_sem, p0, p1, p2, p3, p4, p5, p6, p7]) rfl ?_
    exact pl_bad hg bc
  have d_c2 : decide (8 < n) = false := by simpa using c2
  by_cases c3 : d < 0
  · have d_c3 : decide (d < 0) = true := by simpa using c3
    go_enter Try.func9, Try.ntmps9
    go_wp2_with fail
    refine bodyPost_ret (v := .tuple #[.agg #[.int .i64 0, .int .i64 0, .int .i64 0, .int .i64 0, .int .i64 0, .int .i64 0, .slice none 0 0, .slice none 0 0], .int .i64 2]) (by simp [results, Try.results9, go_sem, p0, p1, p2, p3, p4, p5, p6, p7]) rfl ?_
    exact pl_bad hg bc
  have d_c3 : decide (d < 0) = false := by simpa using c3
  by_cases c4 : 64 < d
  · have d_c4 : decide (64 < d) = true := by simpa using c4
    go_enter Try.func9, Try.ntmps9
    go_wp2_with fail
    refine bodyPost_ret (v := .tuple #[.agg #[.int .i64 0, .int .i64 0, .int .i64 0, .int .i64 0, .int .i64 0, .int .i64 0, .slice none 0 0, .slice none 0 0], .int .i64 2]) (by simp [results, Try.results9, go_sem, p0, p1, p2, p3, p4, p5, p6, p7]) rfl ?_
    exact pl_bad hg bc
  have d_c4 : decide (64 < d) = false := by simpa using c4
  exact absurd ⟨⟨by omega, by omega⟩, by omega, by omega⟩ hg
set_option maxRecDepth 100000 in
set_option maxHeartbeats 4000000 in
theorem plain_any (n d : Int) (w : World) : Calls Try.prog 8 #[.int .i64 n, .int .i64 d] w (PlR w n d) := by
  by_cases hg : plainIs n d
  · obtain ⟨⟨g0, g1⟩, g2, g3⟩ := hg
    obtain ⟨m, rfl⟩ := Int.eq_ofNat_of_zero_le (show 0 ≤ n by omega)
    have hg : plainIs (m : Int) d := ⟨⟨g0, g1⟩, g2, g3⟩
    have ho : plainOf (m : Int) d = plainM m d := by unfold plainOf; rw [if_pos hg, Int.toNat_natCast]
    have he : plainEr (m : Int) d = 0 := if_pos hg
    unfold PlR; rw [ho, he]
    exact plain_good m d w (by omega) (by omega) g2 g3
  cases cn : beyondS 4 8 n with
  | true =>
    obtain ⟨kn, kr, bc⟩ := bx2 w #[.int .i64 n] #[.int .i64 0, .int .i64 0, .int .i64 0, .int .i64 0, .int .i64 0, .int .i64 0, .slice none 0 0, .slice none 0 0] 3 25
    go_enter Try.func8, Try.ntmps8
    go_wp2_with fail
    generalize (w.alloc (.cells #[.int .i64 n] 3)).alloc (.cells #[.int .i64 0, .int .i64 0, .int .i64 0, .int .i64 0, .int .i64 0, .int .i64 0, .slice none 0 0, .slice none 0 0] 25) = u1 at *
    have hdr : Below u1.heap.size u1 u1.drew := (Below.refl _ _).drew
    replace kn := kn.on hdr; replace kr := kr.on hdr; replace bc := bc.trans (hdr.mono bc.size); clear hdr
    obtain ⟨p0, -⟩ := kn.one
    have l0 := kn.lt
    have bs : Below u1.drew.heap.size u1.drew u1.drew := Below.refl _ _
    refine wp_region_held (S := fun W => Below u1.drew.heap.size u1.drew W) (by kernel_rfl) ?_
    change wpAnyH _ _ _ _ _ _ _ ⟨#[.int .i64 n, .int .i64 d, .pointer (some ⟨w.heap.size, 0, none⟩), undef, .pointer (some ⟨w.heap.size + 1, 0, none⟩), .int .i64 0, undef, undef, undef, undef, undef, undef, undef, undef, undef, undef, undef, undef, undef, undef, undef, undef, undef, undef, undef, undef, undef, undef, undef, undef, undef, undef, undef, undef, undef, undef, undef, undef, undef, undef, undef, undef, undef], []⟩ u1.drew
    generalize u1.drew = v0 at *
    refine wpAnyH_take (i := 1) (v := .int .i64 n) rfl (by kernel_rfl) (by kernel_rfl) (by kernel_rfl) (fun _ _ _ h => h) (Or.inl ⟨by rfl, fun W hS => by have hc := (hS.cell (p := ⟨w.heap.size, 0, none⟩) l0).trans p0; go_simp⟩) bs ?_
    change wpAnyH _ _ _ _ _ _ _ ⟨#[.int .i64 n, .int .i64 d, .pointer (some ⟨w.heap.size, 0, none⟩), undef, .pointer (some ⟨w.heap.size + 1, 0, none⟩), .int .i64 0, undef, undef, undef, undef, .int .i64 n, undef, undef, undef, undef, undef, undef, undef, undef, undef, undef, undef, undef, undef, undef, undef, undef, undef, undef, undef, undef, undef, undef, undef, undef, undef, undef, undef, undef, undef, undef, undef, undef], []⟩ _
    refine wpAnyH_ready (rs := [0]) (by kernel_rfl) (by simp) ?_
    refine AllReadyH.cons rfl (fun K2 hK2 => ?_) AllReadyH.nil
    go_simp
    refine (beyond_any 4 8 _).mono ?_
    rintro e w2 ⟨g, rfl, hg3, k1, k2, hC⟩
    dsimp only
    replace bs := bs.trans (hC.mono bs.size); clear hC
    refine Shut.out hK2 _ _ bs (fun _ => ?_)
    clear hK2 K2
    change wpAnyH _ _ _ _ _ _ _ ⟨#[.int .i64 n, .int .i64 d, .pointer (some ⟨w.heap.size, 0, none⟩), undef, .pointer (some ⟨w.heap.size + 1, 0, none⟩), .int .i64 0, undef, undef, undef, .func (.func 56) #[] #[.pointer (some ⟨g, 0, none⟩), .pointer (some ⟨g + 1, 0, none⟩)], .int .i64 n, undef, undef, undef, undef, undef, undef, undef, undef, undef, undef, undef, undef, undef, undef, undef, undef, undef, undef, undef, undef, undef, undef, undef, undef, undef, undef, undef, undef, undef, undef, undef, undef], []⟩ _
    refine wpAnyH_ready (rs := [2]) (by kernel_rfl) (by simp) ?_
    refine AllReadyH.cons rfl (fun K2 hK2 => ?_) AllReadyH.nil
    go_simp
    refine (beyond1_any 4 8 _ _ _ k1 k2).mono ?_
    rintro e w3 ⟨rfl, rfl⟩
    dsimp only
    rw [cn]
    refine Shut.out hK2 _ _ bs (fun _ => ?_)
    clear hK2 K2
    change wpAnyH _ _ _ _ _ _ _ ⟨#[.int .i64 n, .int .i64 d, .pointer (some ⟨w.heap.size, 0, none⟩), undef, .pointer (some ⟨w.heap.size + 1, 0, none⟩), .int .i64 0, undef, undef, undef, .func (.func 56) #[] #[.pointer (some ⟨g, 0, none⟩), .pointer (some ⟨g + 1, 0, none⟩)], .int .i64 n, .bool true, undef, undef, undef, undef, undef, undef, undef, undef, undef, undef, undef, undef, undef, undef, undef, undef, undef, undef, undef, undef, undef, undef, undef, undef, undef, undef, undef, undef, undef, undef, undef], []⟩ _
    refine wpAnyH_take (i := 3) (v := .bool true) rfl (by kernel_rfl) (by kernel_rfl) (by kernel_rfl) (fun _ _ _ h => h) (Or.inl ⟨by rfl, fun W _ => by go_simp⟩) bs ?_
    change wpAnyH _ _ _ _ _ _ _ ⟨#[.int .i64 n, .int .i64 d, .pointer (some ⟨w.heap.size, 0, none⟩), undef, .pointer (some ⟨w.heap.size + 1, 0, none⟩), .int .i64 0, undef, undef, undef, .func (.func 56) #[] #[.pointer (some ⟨g, 0, none⟩), .pointer (some ⟨g + 1, 0, none⟩)], .int .i64 n, .bool true, .bool true, undef, undef, undef, undef, undef, undef, undef, undef, undef, undef, undef, undef, undef, undef, undef, undef, undef, undef, undef, undef, undef, undef, undef, undef, undef, undef, undef, undef, undef, undef], []⟩ _
    refine wpAnyH_take (i := 4) (v := undef) rfl (by kernel_rfl) (by kernel_rfl) (by kernel_rfl) (fun _ _ _ h => h) (Or.inr ⟨by rfl, rfl⟩) bs ?_
    change wpAnyH _ _ _ _ _ _ _ ⟨#[.int .i64 n, .int .i64 d, .pointer (some ⟨w.heap.size, 0, none⟩), undef, .pointer (some ⟨w.heap.size + 1, 0, none⟩), .int .i64 0, undef, undef, undef, .func (.func 56) #[] #[.pointer (some ⟨g, 0, none⟩), .pointer (some ⟨g + 1, 0, none⟩)], .int .i64 n, .bool true, .bool true, undef, undef, undef, undef, undef, undef, undef, undef, undef, undef, undef, undef, undef, undef, undef, undef, undef, undef, undef, undef, undef, undef, undef, undef, undef, undef, undef, undef, undef, undef], []⟩ _
    refine wpAnyH_take (i := 5) (v := undef) rfl (by kernel_rfl) (by kernel_rfl) (by kernel_rfl) (fun _ _ _ h => h) (Or.inr ⟨by rfl, rfl⟩) bs ?_
    change wpAnyH _ _ _ _ _ _ _ ⟨#[.int .i64 n, .int .i64 d, .pointer (some ⟨w.heap.size, 0, none⟩), undef, .pointer (some ⟨w.heap.size + 1, 0, none⟩), .int .i64 0, undef, undef, undef, .func (.func 56) #[] #[.pointer (some ⟨g, 0, none⟩), .pointer (some ⟨g + 1, 0, none⟩)], .int .i64 n, .bool true, .bool true, undef, undef, undef, undef, undef, undef, undef, undef, undef, undef, undef, undef, undef, undef, undef, undef, undef, undef, undef, undef, undef, undef, undef, undef, undef, undef, undef, undef, undef, undef], []⟩ _
    refine wpAnyH_take (i := 6) (v := undef) rfl (by kernel_rfl) (by kernel_rfl) (by kernel_rfl) (fun _ _ _ h => h) (Or.inr ⟨by rfl, rfl⟩) bs ?_
    change wpAnyH _ _ _ _ _ _ _ ⟨#[.int .i64 n, .int .i64 d, .pointer (some ⟨w.heap.size, 0, none⟩), undef, .pointer (some ⟨w.heap.size + 1, 0, none⟩), .int .i64 0, undef, undef, undef, .func (.func 56) #[] #[.pointer (some ⟨g, 0, none⟩), .pointer (some ⟨g + 1, 0, none⟩)], .int .i64 n, .bool true, .bool true, undef, undef, undef, undef, undef, undef, undef, undef, undef, undef, undef, undef, undef, undef, undef, undef, undef, undef, undef, undef, undef, undef, undef, undef, undef, undef, undef, undef, undef, undef], []⟩ _
    refine wpAnyH_take (i := 7) (v := .bool true) rfl (by kernel_rfl) (by kernel_rfl) (by kernel_rfl) (fun _ _ _ h => h) (Or.inl ⟨by rfl, fun W _ => by go_simp⟩) bs ?_
    change wpAnyH _ _ _ _ _ _ _ ⟨#[.int .i64 n, .int .i64 d, .pointer (some ⟨w.heap.size, 0, none⟩), undef, .pointer (some ⟨w.heap.size + 1, 0, none⟩), .int .i64 0, undef, undef, undef, .func (.func 56) #[] #[.pointer (some ⟨g, 0, none⟩), .pointer (some ⟨g + 1, 0, none⟩)], .int .i64 n, .bool true, .bool true, undef, undef, undef, .bool true, undef, undef, undef, undef, undef, undef, undef, undef, undef, undef, undef, undef, undef, undef, undef, undef, undef, undef, undef, undef, undef, undef, undef, undef, undef, undef], []⟩ _
    refine wpAnyH_done (by kernel_rfl) ?_ _
    replace kn := kn.on bs; replace kr := kr.on bs; replace bc := bc.trans (bs.mono bc.size)
    all_goals
      clear p0
      have hst := run_storeVar_row (P := Try.prog) w2 (w.heap.size + 1) 25 25 _ #[.int .i64 0, .int .i64 0, .int .i64 0, .int .i64 0, .int .i64 0, .int .i64 0, .slice none 0 0, .slice none 0 0] kr infoM rfl (by simp [Value.oneCell'])
      simp [go_sem] at hst
      have hG := only_setRow w2 (w.heap.size + 1) #[.int .i64 0, .int .i64 0, .int .i64 0, .int .i64 0, .int .i64 0, .int .i64 0, .slice none 0 0, .slice none 0 0]
      replace bc := Below.off bc bc.size (by omega) hG
      have kr2 := kr.row8 #[.int .i64 0, .int .i64 0, .int .i64 0, .int .i64 0, .int .i64 0, .int .i64 0, .slice none 0 0, .slice none 0 0]
      obtain ⟨q0, q1, q2, q3, q4, q5, q6, q7⟩ := kr2.eight
      clear hG kr kn kr2
      go_wp2_with fail
      refine bodyPost_ret (v := .tuple #[.agg #[.int .i64 0, .int .i64 0, .int .i64 0, .int .i64 0, .int .i64 0, .int .i64 0, .slice none 0 0, .slice none 0 0], .int .i64 2]) (by simp [results, Try.results8, go_sem, q0, q1, q2, q3, q4, q5, q6, q7]) rfl ?_
      exact pl_bad hg bc
  | false =>
    cases cd : beyondS 0 64 d with
    | false => exact absurd ⟨(beyond_iff 4 8 n).1 cn, (beyond_iff 0 64 d).1 cd⟩ hg
    | true =>
      obtain ⟨kn, kr, bc⟩ := bx2 w #[.int .i64 n] #[.int .i64 0, .int .i64 0, .int .i64 0, .int .i64 0, .int .i64 0, .int .i64 0, .slice none 0 0, .slice none 0 0] 3 25
      go_enter Try.func8, Try.ntmps8
      go_wp2_with fail
      generalize (w.alloc (.cells #[.int .i64 n] 3)).alloc (.cells #[.int .i64 0, .int .i64 0, .int .i64 0, .int .i64 0, .int .i64 0, .int .i64 0, .slice none 0 0, .slice none 0 0] 25) = u1 at *
      have hdr : Below u1.heap.size u1 u1.drew := (Below.refl _ _).drew
      replace kn := kn.on hdr; replace kr := kr.on hdr; replace bc := bc.trans (hdr.mono bc.size); clear hdr
      obtain ⟨p0, -⟩ := kn.one
      go_region_held3 (fun w' => w'.cell? ⟨w.heap.size, 0, none⟩ = some (.int .i64 n)) (first | exact p0) (first
              | (go_at_call 56; refine (beyond1_any 4 8 _ _ _ k1 k2).mono ?_; rintro e w3 ⟨rfl, rfl⟩; rw [cn])
              | (go_at_call 56; refine (beyond1_any 0 64 _ _ _ k1 k2).mono ?_; rintro e w3 ⟨rfl, rfl⟩; rw [cd])
              | (have _ := k1; go_at_call 29; refine (beyond_any 0 64 _).mono ?_; rintro e w2 ⟨g2, rfl, hg2, k1, k2, hC⟩; dsimp only; replace kn := kn.on hC; replace kr := kr.on hC; replace bc := bc.trans (hC.mono bc.size); clear hC; obtain ⟨p0, -⟩ := kn.one)
              | (go_at_call 29; refine (beyond_any 4 8 _).mono ?_; rintro e w2 ⟨g1, rfl, hg1, k1, k2, hC⟩; dsimp only; replace kn := kn.on hC; replace kr := kr.on hC; replace bc := bc.trans (hC.mono bc.size); clear hC; obtain ⟨p0, -⟩ := kn.one))
      all_goals
        clear p0
        have hst := run_storeVar_row (P := Try.prog) w2 (w.heap.size + 1) 25 25 _ #[.int .i64 0, .int .i64 0, .int .i64 0, .int .i64 0, .int .i64 0, .int .i64 0, .slice none 0 0, .slice none 0 0] kr infoM rfl (by simp [Value.oneCell'])
        simp [go_sem] at hst
        have hG := only_setRow w2 (w.heap.size + 1) #[.int .i64 0, .int .i64 0, .int .i64 0, .int .i64 0, .int .i64 0, .int .i64 0, .slice none 0 0, .slice none 0 0]
        replace bc := Below.off bc bc.size (by omega) hG
        have kr2 := kr.row8 #[.int .i64 0, .int .i64 0, .int .i64 0, .int .i64 0, .int .i64 0, .int .i64 0, .slice none 0 0, .slice none 0 0]
        obtain ⟨q0, q1, q2, q3, q4, q5, q6, q7⟩ := kr2.eight
        clear hG kr kn kr2
        go_wp2_with fail
        refine bodyPost_ret (v := .tuple #[.agg #[.int .i64 0, .int .i64 0, .int .i64 0, .int .i64 0, .int .i64 0, .int .i64 0, .slice none 0 0, .slice none 0 0], .int .i64 2]) (by simp [results, Try.results8, go_sem, q0, q1, q2, q3, q4, q5, q6, q7]) rfl ?_
        exact pl_bad hg bc
end Go.Proofs.Ytnmaelefcohogaa
