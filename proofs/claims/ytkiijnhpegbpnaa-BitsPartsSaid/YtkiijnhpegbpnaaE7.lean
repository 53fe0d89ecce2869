/-
  Text of package bits answers a digit for each bit, and the empty text for bits that may not be. No condition but that the bytes can be read.
-/
import Derived.Test.YtkiijnhpegbpnaaE6
namespace Go.Proofs.Ytkiijnhpegbpnaa
open Go.RowKit Go.Shelf
attribute [local go_sem] Oper.semAt_some

/-- A digit for each bit. -/
def dig (b : Bool) : UInt8 := if b then 49 else 48
def textOf (l : List Bool) : ByteArray := ⟨(l.map dig).toArray⟩

theorem push_all (bs : List UInt8) : ∀ s : ByteArray, (bs.map fun x => (x.toNat : Int)).foldl (fun r n => r.push (UInt8.ofNat n.toNat)) s = ⟨s.data ++ bs.toArray⟩ := by
  induction bs with
  | nil => intro s; simp
  | cons x bs ih =>
    intro s
    rw [List.map_cons, List.foldl_cons, ih]
    simp [ByteArray.push]
theorem addr_add (b off j : Nat) : (⟨b, off, none⟩ : Addr).add j = ⟨b, off + j, none⟩ := by
  unfold Addr.add
  split
  · rename_i h; subst h; rfl
  · rfl
/-- string(bytes), of bytes that a slice holds. -/
theorem run_string_bytes {n₀ : Nat} {W : World} {A : Option Addr} {n c : Nat} {bs : List UInt8} (hn : n = bs.length) (hA : Byt n₀ W A bs) : (convert 22 9 (.slice A n c)).run Try.prog W = .ok (.string ⟨bs.toArray⟩) W := by
  subst hn
  rw [run_convert_bytes_string W 22 9 5 A bs.length c Try.underlying22 Try.underlying5 Try.underlying9]
  have key : ∀ a : Addr, (∀ j u, (bs.map fun x => Value.int .u8 (x.toNat : Int))[j]? = some u → W.cell? (a.add j) = some u) → (Conv.bytesToString (.slice (some a) bs.length c)).run Try.prog W = .ok (.string ⟨bs.toArray⟩) W := by
    intro a ha
    have hl := run_loadCells_list (P := Try.prog) W a (bs.map fun x => Value.int .u8 (x.toNat : Int)) ha
    rw [List.length_map] at hl
    have h2 := run_bytesToString (P := Try.prog) W a bs.length c (bs.map fun x => (x.toNat : Int)) (by rw [hl]; simp)
    rw [h2, push_all]
    simp
  by_cases h0 : bs = []
  · subst h0
    cases A with
    | none => simp [Conv.bytesToString]; rfl
    | some a => exact key a (by simp)
  · obtain ⟨b, off, rfl, _, hc⟩ := hA h0
    refine key _ fun j u hu => ?_
    have hjl : j < bs.length := by
      rcases Nat.lt_or_ge j bs.length with hl | hl
      · exact hl
      · simp [List.getElem?_eq_none hl] at hu
    have hv : u = .int .u8 ((bs[j]?.getD 0).toNat : Int) := by simpa [hjl, eq_comm] using hu
    rw [hv, addr_add]
    exact hc j hjl
theorem byt_of_own {w : World} {base : Nat} {v : Value} {k : Nat} {bs : List UInt8} (h : w.ownsRow base 5 1 v k (bs.map fun x => Value.int .u8 (x.toNat : Int))) : ∃ A c, v = .slice A bs.length c ∧ Byt w.heap.size w A bs := by
  have hk : bs.length = k := by have := h.1; simpa using this
  rcases h.2 with ⟨rfl, h0⟩ | ⟨g, cap, cur, rfl, _, hh, _⟩
  · exact ⟨none, 0, by rw [hk, h0], fun hne => absurd (List.eq_nil_of_length_eq_zero (hk.trans h0)) hne⟩
  · refine ⟨some ⟨g, 0, none⟩, cap, by rw [hk], fun _ => ⟨g, 0, rfl, (Array.getElem?_eq_some_iff.1 hh).1, fun j hj => ?_⟩⟩
    have := h.cells (g := g) rfl j (.int .u8 ((bs[j]?.getD 0).toNat : Int)) (by simp [hj])
    rwa [addr_add] at this

/-- 'out = append(out, ..)' into a boxed variable that lies below the row's base. -/
theorem appended2 {W w1 : World} {n₀ n₁ B : Nat} {t e : TypeId} {size : Nat} {v v' : Value} {k m : Nat} {xs ys : List Value} {tmp : Obj}
    (hv : Boxed W B t v) (hte : t ≠ e) (hrow : W.ownsRow n₁ e size v k xs) (hn₁ : n₁ ≤ W.heap.size) (hn₀ : n₀ ≤ n₁) (hB : n₀ ≤ B)
    (hown' : w1.ownsRow n₁ e size v' m ys) (hgrow : (W.alloc tmp).grownBy w1 v.ownBlock) :
    Boxed w1 B t v ∧ Boxed (w1.setCell ⟨B, 0, none⟩ v') B t v' ∧ (w1.setCell ⟨B, 0, none⟩ v').ownsRow n₁ e size v' m ys ∧ KeepsOthers W (w1.setCell ⟨B, 0, none⟩ v') ∧ Below n₀ W (w1.setCell ⟨B, 0, none⟩ v') ∧
      (∀ q, q < n₁ → q ≠ B → (w1.setCell ⟨B, 0, none⟩ v').heap[q]? = W.heap[q]?) := by
  have hv1 : Boxed w1 B t v := (hv.alloc tmp).kept hgrow (hv.not_row hte hrow)
  have hge : ∀ j, v.ownBlock = some j → n₁ ≤ j := fun j ej => (hrow.lt j ej).1
  refine ⟨hv1, hv1.set v', hown'.kept (grownBy_setCell' w1 B v') (.inr (hv1.not_row hte hown').symm), ?_, ?_, fun q hq hne => ?_⟩
  · refine ((KeepsOthers.alloc W tmp).trans (KeepsOthers.of_grownBy hgrow fun j o ej hj => ?_)).trans (KeepsOthers.setCell _ _ _)
    rcases (hrow.alloc tmp).2 with ⟨rfl, _⟩ | ⟨g, cap, cur, rfl, _, hgb, _⟩
    · simp [Value.ownBlock] at ej
    · obtain rfl : g = j := by simpa [Value.ownBlock] using ej
      rw [hgb] at hj; cases hj; rfl
  · exact (((Below.refl n₀ W).alloc (by omega) tmp).grown hgrow (by simp; omega) fun j ej => Nat.le_trans hn₀ (hge j ej)).setCell (p := ⟨B, 0, none⟩) hB v'
  · refine (Below.heap_setCell w1 ⟨B, 0, none⟩ v' q hne).trans ((hgrow.block q (by simp; omega) (fun ej => ?_)).trans (Below.heap_alloc W tmp q (by omega)))
    have := hge q ej.symm
    omega

theorem dig_snoc (pre : List (Nat × Bool)) (x : Nat × Bool) : (pre ++ [x]).map (fun y => Value.int .u8 ((dig y.2).toNat : Int)) = pre.map (fun y => Value.int .u8 ((dig y.2).toNat : Int)) ++ [.int .u8 ((dig x.2).toNat : Int)] := by simp

set_option maxRecDepth 100000 in
set_option maxHeartbeats 2000000 in
theorem text_any (N : Int) (A : Option Addr) (n c : Nat) (bs : List UInt8) (w : World) (hn : n = bs.length) (hm : n ≤ maxLen) (hA : Byt w.heap.size w A bs) :
    Calls Try.prog 34 #[.agg #[.int .i64 N, .slice A n c]] w fun e w' => e = .returned (.string (textOf (lst N bs))) ∧ Below w.heap.size w w' := by
  have hall := fun w1 (h : Below w.heap.size w w1) => all_any N A n c bs w1 hn hm ((hA.below h).mono h.size)
  have hlen := lst_length N bs
  generalize lst N bs = l at *
  have HALL := Lib.hid hall; clear hall hA hn
  unfold maxLen at hm
  refine (callsIn_wide (n := 5)).1 ?_
  refine callsIn_of_wp_marks Try.func34 rfl trivial ?_ rfl
  simp only [Try.ntmps34, List.size_toArray, List.length_cons, List.length_nil, Nat.reduceAdd, Nat.reduceSub, Array.replicate_succ, Array.replicate_zero, List.push_toArray, List.append_toArray, List.nil_append, List.cons_append]
  gi_wp2_with (refine ⟨trivial, ?_⟩; gi_at_call 12; refine (callsIn_wide.2 (HALL.out _ (((Below.refl _ _).alloc (Nat.le_refl _) _).alloc (by simp) _))).mono ?_; rintro e w1 ⟨gf, lb, g, ob, rfl, hent, htells, hg1, ho1, hg2, ho2, hB⟩; have HT := Lib.hid htells; clear htells; have HE := Lib.hid hent; clear hent)
  have bD : Boxed w1 (w.heap.size + 1) 22 (.slice none 0 0) := by
    have h2 : Boxed ((w.alloc (.cells #[.int .i64 N, .slice A n c] 24)).alloc (.cells #[.slice none 0 0] 22)) (w.heap.size + 1) 22 (.slice none 0 0) := by
      simpa using Boxed.new (w.alloc (.cells #[.int .i64 N, .slice A n c] 24)) 22 (.slice none 0 0)
    exact (hB.block _ (by simp)).trans h2
  have hBw : Below w.heap.size w w1 := (((Below.refl _ _).alloc (Nat.le_refl _) _).alloc (by simp) _).trans (hB.mono (by simp; omega))
  have hg3 : w.heap.size + 2 ≤ g := by simpa using hg1
  have ho3 : w.heap.size + 2 ≤ ob := by simpa using ho1
  obtain ⟨i0, hi, hz0, hz1, hz2⟩ := info_parts Try.info5
  have hs0 := hBw.size
  clear hg1 ho1 hB
  refine wpIn_rangeFunc_ownG rfl (by omega) (gf := gf) (lb := lb) rfl trivial HE.out (HT.out (5 - 1) (by omega)) Keeps2.trans (keeps2_b hg2 ho2) (Below.refl _ _) (fun _ => rfl)
    (fun pre W => (∃ v, Boxed W (w.heap.size + 1) 22 v ∧ W.ownsRow w1.heap.size 5 1 v pre.length (pre.map (fun y => Value.int .u8 ((dig y.2).toNat : Int))) ∧ True) ∧ Below w.heap.size w W ∧ Below 0 w1 W)
    (fun _ _ _ => False)
    (OwnFrom.and (Own.from (holdsRow_own w1.heap.size (w.heap.size + 1) 22 5 1 (fun pre : List (Nat × Bool) => pre.length) (fun pre : List (Nat × Bool) => pre.map (fun y => Value.int .u8 ((dig y.2).toNat : Int))) (fun _ _ => True)) _) (OwnFrom.and (ownFrom_below (Nat.le_refl _) (by omega)) (ownFrom_below (Nat.zero_le _) (by omega))))
    (fun _ _ _ _ _ hs _ _ => hs)
    ⟨⟨_, bD, World.ownsRow_nil _ _ _ _, trivial⟩, hBw, Below.refl _ _⟩
    (fun x => { tmps := #[.agg #[.int .i64 N, .slice A n c], .pointer (some ⟨w.heap.size, 0, none⟩), .string ⟨#[]⟩, .pointer (some ⟨w.heap.size + 1, 0, none⟩), undef, .bool x.2, .agg #[.int .i64 N, .slice A n c], .func (.func gf) #[] lb, .int .i64 (x.1 : Int), .bool x.2, undef, undef, undef, undef, undef, undef, undef, undef, undef], defers := [] }) ?assign ?body ?done ?stop
  case assign =>
    intro l x W K hK
    gi_wp2
    exact hK
  case body =>
    rintro lp pre ⟨j, b⟩ W ⟨⟨v, hv, hrow, _⟩, hBb, hB1⟩ hlt
    have hc := hv.cell
    have hsz1 : w1.heap.size ≤ W.heap.size := hB1.size
    cases b with
    | true =>
      dsimp only
      gi_wp2_with (gi_at_builtin; refine wpListIn_append_own _ rfl _ _ 22 rfl w1.heap.size 5 i0 (.int .u8 0) 1 1 Try.underlying22 hi hz0 hz1 hz2 rfl (by decide) _ _ _ rfl (hrow.alloc _) ⟨W.heap.size, 0, none⟩ 1 1 [.int .u8 49] rfl rfl (cell_one_new _ _ _) (by simp [Value.oneCell']) (by unfold maxLen; omega) (by omega) (by simp; omega) ?_; intro v' w2 hown' hgrow _; obtain ⟨g', cap', rfl⟩ := ownsRow_succ hown'; obtain ⟨hv1, hv2, hr2, hk2, hb2, hq2⟩ := appended2 hv (by decide) hrow hsz1 (Nat.le_trans (Nat.le_refl _) hs0) (by omega) hown' hgrow; have hc1 := hv1.cell; have hf1 := hv1.frozen)
      refine ⟨hk2.from _, ⟨hq2 g hg2 (by omega), hq2 ob ho2 (by omega)⟩, ⟨_, hv2, ?_, trivial⟩, hBb.trans hb2, hB1.trans (hb2.mono (Nat.zero_le _))⟩
      rw [dig_snoc, List.length_append, List.length_singleton]
      exact hr2
    | false =>
      dsimp only
      gi_wp2_with (gi_at_builtin; refine wpListIn_append_own _ rfl _ _ 22 rfl w1.heap.size 5 i0 (.int .u8 0) 1 1 Try.underlying22 hi hz0 hz1 hz2 rfl (by decide) _ _ _ rfl (hrow.alloc _) ⟨W.heap.size, 0, none⟩ 1 1 [.int .u8 48] rfl rfl (cell_one_new _ _ _) (by simp [Value.oneCell']) (by unfold maxLen; omega) (by omega) (by simp; omega) ?_; intro v' w2 hown' hgrow _; obtain ⟨g', cap', rfl⟩ := ownsRow_succ hown'; obtain ⟨hv1, hv2, hr2, hk2, hb2, hq2⟩ := appended2 hv (by decide) hrow hsz1 (Nat.le_trans (Nat.le_refl _) hs0) (by omega) hown' hgrow; have hc1 := hv1.cell; have hf1 := hv1.frozen)
      refine ⟨hk2.from _, ⟨hq2 g hg2 (by omega), hq2 ob ho2 (by omega)⟩, ⟨_, hv2, ?_, trivial⟩, hBb.trans hb2, hB1.trans (hb2.mono (Nat.zero_le _))⟩
      rw [dig_snoc, List.length_append, List.length_singleton]
      exact hr2
  case done =>
    rintro D ys W hD rfl ⟨⟨v, hv, hrow, _⟩, hBb, hB1⟩ hK
    have hc := hv.cell
    have hm2 : (upto l l.length).map (fun y => Value.int .u8 ((dig y.2).toNat : Int)) = (l.map dig).map (fun x => Value.int .u8 (x.toNat : Int)) := by
      have h3 := congrArg (List.map (fun b => Value.int .u8 ((dig b).toNat : Int))) (upto_snd l)
      rw [List.map_map] at h3 ⊢
      exact h3
    rw [hm2] at hrow
    obtain ⟨A2, c2, rfl, hA2⟩ := byt_of_own hrow
    have hst : (convert 22 9 (.slice A2 l.length c2)).run Try.prog W = .ok (.string (textOf l)) W := run_string_bytes (by simp) hA2
    clear hm2 hrow hv hA2
    gi_wp2
    refine ⟨by simp, .inl ⟨_, _, rfl, run_takeDeferred hK, ?_⟩⟩
    exact ⟨_, results_tmp rfl _ _ _, rfl, hBb.trans (belowK_b (w := w) (Nat.le_refl _) W D _ _ (by omega) hK rfl rfl)⟩
  case stop =>
    rintro D c pre W _ _ h _
    exact h.elim
end Go.Proofs.Ytkiijnhpegbpnaa
