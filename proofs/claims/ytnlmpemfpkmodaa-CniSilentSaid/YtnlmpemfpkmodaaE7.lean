/-
  Text of package bits answers a digit for each bit, and the empty text for bits that may not be. No condition but that the bytes can be read.
-/
import Derived.Test.YtnlmpemfpkmodaaE6
namespace Go.Proofs.Ytnlmpemfpkmodaa
open Go.RowKit Go.Shelf
attribute [local go_sem] Oper.semAt_some

/-- A digit for each bit. -/
def dig (b : Bool) : UInt8 := if b then 49 else 48
def textOf (l : List Bool) : ByteArray := ⟨(l.map dig).toArray⟩

theorem push_all (bs : List UInt8) : ∀ s : ByteArray, (bs.map fun x => (x.toNat : Int)).foldl (fun r n => r.push (UInt8.ofNat n.toNat)) s = ⟨s.data ++ bs.toArray⟩ := by
  induction bs with
  | nil => intro s; simp
  | cons x bs ih =>
    intro s
    rw [List.map_cons, List.foldl_cons, ih]
    simp [ByteArray.push]
theorem addr_add (b off j : Nat) : (⟨b, off, none⟩ : Addr).add j = ⟨b, off + j, none⟩ := by
  unfold Addr.add
  split
  · rename_i h; subst h; rfl
  · rfl
/-- string(bytes), of bytes that a slice holds. -/
theorem run_string_bytes {n₀ : Nat} {W : World} {A : Option Addr} {n c : Nat} {bs : List UInt8} (hn : n = bs.length) (hA : Byt n₀ W A bs) : (convert 22 9 (.slice A n c)).run Try.prog W = .ok (.string ⟨bs.toArray⟩) W := by
  subst hn
  rw [run_convert_bytes_string W 22 9 5 A bs.length c Try.underlying22 Try.underlying5 Try.underlying9]
  have key : ∀ a : Addr, (∀ j u, (bs.map fun x => Value.int .u8 (x.toNat : Int))[j]? = some u → W.cell? (a.add j) = some u) → (Conv.bytesToString (.slice (some a) bs.length c)).run Try.prog W = .ok (.string ⟨bs.toArray⟩) W := by
    intro a ha
    have hl := run_loadCells_list (P := Try.prog) W a (bs.map fun x => Value.int .u8 (x.toNat : Int)) ha
    rw [List.length_map] at hl
    have h2 := run_bytesToString (P := Try.prog) W a bs.length c (bs.map fun x => (x.toNat : Int)) (by rw [hl]; simp)
    rw [h2, push_all]
    simp
  by_cases h0 : bs = []
  · subst h0
    cases A with
    | none => simp [Conv.bytesToString]; rfl
    | some a => exact key a (by simp)
  · obtain ⟨b, off, rfl, _, hc⟩ := hA h0
    refine key _ fun j u hu => ?_
    have hjl : j < bs.length := by
      rcases Nat.lt_or_ge j bs.length with hl | hl
      · exact hl
      · simp [List.getElem?_eq_none hl] at hu
    have hv : u = .int .u8 ((bs[j]?.getD 0).toNat : Int) := by simpa [hjl, eq_comm] using hu
    rw [hv, addr_add]
    exact hc j hjl
theorem byt_of_own {w : World} {base : Nat} {v : Value} {k : Nat} {bs : List UInt8} (h : w.ownsRow base 5 1 v k (bs.map fun x => Value.int .u8 (x.toNat : Int))) : ∃ A c, v = .slice A bs.length c ∧ Byt w.heap.size w A bs := by
  have hk : bs.length = k := by have := h.1; simpa using this
  rcases h.2 with ⟨rfl, h0⟩ | ⟨g, cap, cur, rfl, _, hh, _⟩
  · exact ⟨none, 0, by rw [hk, h0], fun hne => absurd (List.eq_nil_of_length_eq_zero (hk.trans h0)) hne⟩
  · refine ⟨some ⟨g, 0, none⟩, cap, by rw [hk], fun _ => ⟨g, 0, rfl, (Array.getElem?_eq_some_iff.1 hh).1, fun j hj => ?_⟩⟩
    have := h.cells (g := g) rfl j (.int .u8 ((bs[j]?.getD 0).toNat : Int)) (by simp [hj])
    rwa [addr_add] at this

/-- 'out = append(out, ..)' into a boxed variable that lies below the row's base. -/
theorem appended2 {W w1 : World} {n₀ n₁ B : Nat} {t e : TypeId} {size : Nat} {v v' : Value} {k m : Nat} {xs ys : List Value} {tmp : Obj}
    (hv : Boxed W B t v) (hte : t ≠ e) (hrow : W.ownsRow n₁ e size v k xs) (hn₁ : n₁ ≤ W.heap.size) (hn₀ : n₀ ≤ n₁) (hB : n₀ ≤ B)
    (hown' : w1.ownsRow n₁ e size v' m ys) (hgrow : (W.alloc tmp).grownBy w1 v.ownBlock) :
    Boxed w1 B t v ∧ Boxed (w1.setCell ⟨B, 0, none⟩ v') B t v' ∧ (w1.setCell ⟨B, 0, none⟩ v').ownsRow n₁ e size v' m ys ∧ KeepsOthers W (w1.setCell ⟨B, 0, none⟩ v') ∧ Below n₀ W (w1.setCell ⟨B, 0, none⟩ v') ∧
      (∀ q, q < n₁ → q ≠ B → (w1.setCell ⟨B, 0, none⟩ v').heap[q]? = W.heap[q]?) := by
  have hv1 : Boxed w1 B t v := (hv.alloc tmp).kept hgrow (hv.not_row hte hrow)
  have hge : ∀ j, v.ownBlock = some j → n₁ ≤ j := fun j ej => (hrow.lt j ej).1
  refine ⟨hv1, hv1.set v', hown'.kept (grownBy_setCell' w1 B v') (.inr (hv1.not_row hte hown').symm), ?_, ?_, fun q hq hne => ?_⟩
  · refine ((KeepsOthers.alloc W tmp).trans (KeepsOthers.of_grownBy hgrow fun j o ej hj => ?_)).trans (KeepsOthers.setCell _ _ _)
    rcases (hrow.alloc tmp).2 with ⟨rfl, _⟩ | ⟨g, cap, cur, rfl, _, hgb, _⟩
    · simp [Value.ownBlock] at ej
    · obtain rfl : g = j := by simpa [Value.ownBlock] using ej
      rw [hgb] at hj; cases hj; rfl
  · exact (((Below.refl n₀ W).alloc (by omega) tmp).grown hgrow (by simp; omega) fun j ej => Nat.le_trans hn₀ (hge j ej)).setCell (p := ⟨B, 0, none⟩) hB v'
  · refine (Below.heap_setCell w1 ⟨B, 0, none⟩ v' q hne).trans ((hgrow.block q (by simp; omega) (fun ej => ?_)).trans (Below.heap_alloc W tmp q (by omega)))
    have := hge q ej.symm
    omega

theorem dig_snoc (pre : List (Nat × Bool)) (x : Nat × Bool) : (pre ++ [x]).map (fun y => Value.int .u8 ((dig y.2).toNat : Int)) = pre.map (fun y => Value.int .u8 ((dig y.2).toNat : Int)) ++ [.int .u8 ((dig x.2).toNat : Int)] := by simp

end Go.Proofs.Ytnlmpemfpkmodaa
