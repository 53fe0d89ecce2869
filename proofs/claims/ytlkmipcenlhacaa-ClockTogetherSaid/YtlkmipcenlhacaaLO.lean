/-
  The law of clocks that come together. Conditions: what the program's functions answer. (Printed by tools/gen13o.py; laid ahead.)
-/
import Derived.Test.YtlkmipcenlhacaaLL
import Derived.Test.YtlkmipcenlhacaaLI
import Derived.Deep.RegionHeld3
import Derived.BigRegion
namespace Go.Proofs.Ytlkmipcenlhacaa
open Go.RowKit

theorem range_set {α : Type} {n j : Nat} {f f' : Nat → α} {x : α} (_hj : j < n) (h1 : ∀ i, i < n → i ≠ j → f' i = f i) (hx : f' j = x) : ((List.range n).map f).set j x = (List.range n).map f' := by
  refine List.ext_getElem (by simp) fun i h2 h3 => ?_
  have hi : i < n := by simpa using h3
  rw [List.getElem_set]
  by_cases e : j = i
  · subst e
    rw [if_pos rfl]; simp [hx]
  · rw [if_neg e]; simp [h1 i hi (fun h => e h.symm)]
theorem range_at {α : Type} {n j : Nat} {f : Nat → α} {l : List (α × Slc)} (h : l.map Prod.fst = (List.range n).map f) (hj : j < n) : ∃ y, l[j]? = some y ∧ y.1 = f j := by
  have hl : l.length = n := by have := congrArg List.length h; simpa using this
  refine ⟨l[j]'(by omega), by simp, ?_⟩
  have h2 := congrArg (fun z => z[j]?) h
  simp only [List.getElem?_map, List.getElem?_range hj, Option.map_some] at h2
  rw [List.getElem?_eq_getElem (by omega)] at h2
  simpa using h2
/-- The clocks while their beginnings are laid. -/
def iniK (_a : Int) (o : Nat → Int) (j i : Nat) : Ck := if i < j then ⟨o i, 0, []⟩ else ⟨0, 0, []⟩
theorem ini_zero (n : Nat) (a : Int) (o : Nat → Int) : (List.replicate n zeroKs).map Prod.fst = (List.range n).map (iniK a o 0) := by
  refine List.ext_getElem (by simp) fun i h1 h2 => ?_
  simp [zeroKs, iniK]
theorem ini_next {n j : Nat} {a : Int} {o : Nat → Int} {l : List (Ck × Slc)} (hl : l.map Prod.fst = (List.range n).map (iniK a o j)) (hlt : j < n) (y : Ck × Slc) (hy : y.1 = ⟨o j, 0, []⟩) : (l.set j y).map Prod.fst = (List.range n).map (iniK a o (j + 1)) := by
  rw [List.map_set, hl]
  refine range_set hlt (fun i _ hne => ?_) ?_
  · unfold iniK
    by_cases h : i < j
    · rw [if_pos (by omega), if_pos h]
    · rw [if_neg (by omega), if_neg h]
  · unfold iniK
    rw [if_pos (by omega), hy]
/-- The clocks at the beginning of slot k of the round; behind it. -/
def atK (S : Int) (o : Nat → Int) (d : Nat → Nat → Int) (n k i : Nat) : Ck := if k < n then ckI S o d i k k else finI S o d n i
/-- The clocks of slot k, of which the first q have seen. -/
def seenK (S : Int) (o : Nat → Int) (d : Nat → Nat → Int) (k q i : Nat) : Ck := ckI S o d i k (if i < q then k + 1 else k)
/-- The clocks of slot k, of which the first q are in the next one. -/
def nextsK (S : Int) (o : Nat → Int) (d : Nat → Nat → Int) (n k q i : Nat) : Ck := if i < q then atK S o d n (k + 1) i else ckI S o d i k (k + 1)
theorem map_range_congr {α : Type} {n : Nat} {f g : Nat → α} (h : ∀ i, i < n → f i = g i) : (List.range n).map f = (List.range n).map g := List.map_congr_left fun i hi => h i (List.mem_range.1 hi)
theorem ini_at (S : Int) (d : Nat → Nat → Int) {n : Nat} {a : Int} {o : Nat → Int} (h : 0 < n) : (List.range n).map (iniK a o n) = (List.range n).map (atK S o d n 0) := map_range_congr fun i hi => by
  unfold iniK atK
  rw [if_pos hi, if_pos h]
  unfold ckI
  rw [devsI_zero]
  unfold stI drI
  simp
theorem at_seen (S : Int) (o : Nat → Int) (d : Nat → Nat → Int) {n k : Nat} (h : k < n) : (List.range n).map (atK S o d n k) = (List.range n).map (seenK S o d k 0) := map_range_congr fun i _ => by
  unfold atK seenK
  rw [if_pos h, if_neg (by omega)]
theorem seen_nexts (S : Int) (o : Nat → Int) (d : Nat → Nat → Int) (n k : Nat) : (List.range n).map (seenK S o d k n) = (List.range n).map (nextsK S o d n k 0) := map_range_congr fun i hi => by
  unfold nextsK seenK
  rw [if_pos hi, if_neg (by omega)]
theorem nexts_at (S : Int) (o : Nat → Int) (d : Nat → Nat → Int) (n k : Nat) : (List.range n).map (nextsK S o d n k n) = (List.range n).map (atK S o d n (k + 1)) := map_range_congr fun i hi => by
  unfold nextsK
  rw [if_pos hi]
theorem seen_own (S : Int) (o : Nat → Int) (d : Nat → Nat → Int) (n k : Nat) : (List.range n).map (seenK S o d k k) = (List.range n).map (seenK S o d k (k + 1)) := map_range_congr fun i _ => by
  unfold seenK
  by_cases h : i = k
  · subst h
    rw [if_neg (by omega), if_pos (by omega)]
    unfold ckI
    rw [devsI_own]
  · by_cases h2 : i < k
    · rw [if_pos h2, if_pos (by omega)]
    · rw [if_neg h2, if_neg (by omega)]
theorem seen_set {S : Int} {o : Nat → Int} {d : Nat → Nat → Int} {n k q : Nat} {l : List (Ck × Slc)} (hl : l.map Prod.fst = (List.range n).map (seenK S o d k q)) (hq : q < n) (v : Slc) : (l.set q (ckI S o d q k (k + 1), v)).map Prod.fst = (List.range n).map (seenK S o d k (q + 1)) := by
  rw [List.map_set, hl]
  refine range_set hq (fun i _ hne => ?_) ?_
  · unfold seenK
    by_cases h : i < q
    · rw [if_pos (by omega), if_pos h]
    · rw [if_neg (by omega), if_neg h]
  · unfold seenK
    rw [if_pos (by omega)]
theorem seen_put {S : Int} {o : Nat → Int} {d : Nat → Nat → Int} {n k q : Nat} {l : List (Ck × Slc)} (hl : l.map Prod.fst = (List.range n).map (seenK S o d k q)) (hq : q < n) (y : Ck) (v : Slc) (hy : y = ckI S o d q k (k + 1)) : (l.set q (y, v)).map Prod.fst = (List.range n).map (seenK S o d k (q + 1)) := by
  subst hy; exact seen_set hl hq v
theorem nexts_set {S : Int} {o : Nat → Int} {d : Nat → Nat → Int} {n k q : Nat} {l : List (Ck × Slc)} (hl : l.map Prod.fst = (List.range n).map (nextsK S o d n k q)) (hq : q < n) (v : Slc) : (l.set q (atK S o d n (k + 1) q, v)).map Prod.fst = (List.range n).map (nextsK S o d n k (q + 1)) := by
  rw [List.map_set, hl]
  refine range_set hq (fun i _ hne => ?_) ?_
  · unfold nextsK
    by_cases h : i < q
    · rw [if_pos (by omega), if_pos h]
    · rw [if_neg (by omega), if_neg h]
  · unfold nextsK
    rw [if_pos (by omega)]
theorem nexts_put {S : Int} {o : Nat → Int} {d : Nat → Nat → Int} {n k q : Nat} {l : List (Ck × Slc)} (hl : l.map Prod.fst = (List.range n).map (nextsK S o d n k q)) (hq : q < n) (y : Ck) (v : Slc) (hy : y = atK S o d n (k + 1) q) : (l.set q (y, v)).map Prod.fst = (List.range n).map (nextsK S o d n k (q + 1)) := by
  subst hy; exact nexts_set hl hq v
theorem tg_next {m : ML} {a : Int} {o : Nat → Int} {d : Nat → Nat → Int} (h : TgOk m a o d) {n : Nat} (hn : (n : Int) = m.N) (i k : Nat) (hk : k < n) : nextK m (ckI m.S o d i k (k + 1)) (d k i) = (0, atK m.S o d n (k + 1) i) := by
  unfold atK
  by_cases hk2 : k + 1 < n
  · rw [if_pos hk2]; exact tg_gone h i k (by omega)
  · rw [if_neg hk2, tg_last h i k (by omega)]
    rw [show k + 1 = n by omega]
theorem keepT {W : World} {g gq b t n cap q : Nat} {c0 c1 c2 c3 c4 c5 c6 c7 : Value} {l : List (Ck × Slc)} {y : Ck × Slc} (km : Blk W g t #[c0, c1, c2, c3, c4, c5, c6, c7]) (h : W.ownsRow b 28 3 (.slice (some ⟨gq, 0, none⟩) n cap) n (cellsK l)) (hy : l[q]? = some y) :
    W.cell? ⟨g, 0, none⟩ = some c0 ∧ W.cell? ⟨g, 1, none⟩ = some c1 ∧ W.cell? ⟨g, 2, none⟩ = some c2 ∧ W.cell? ⟨g, 3, none⟩ = some c3 ∧ W.cell? ⟨g, 4, none⟩ = some c4 ∧ W.cell? ⟨g, 5, none⟩ = some c5 ∧ W.cell? ⟨g, 6, none⟩ = some c6 ∧ W.cell? ⟨g, 7, none⟩ = some c7 ∧ W.cell? ⟨gq, q * 3, none⟩ = some (.int .i64 y.1.st) ∧ W.cell? ⟨gq, q * 3 + 1, none⟩ = some (.int .i64 y.1.sl) ∧ W.cell? ⟨gq, q * 3 + 2, none⟩ = some (.slice y.2.A y.2.n y.2.c) := by
  obtain ⟨a0, a1, a2, a3, a4, a5, a6, a7⟩ := km.eight
  obtain ⟨e0, e1, e2⟩ := own_cellK h hy
  exact ⟨a0, a1, a2, a3, a4, a5, a6, a7, e0, e1, e2⟩
theorem grownK3 (W : World) (g i : Nat) (v0 v1 v2 : Value) : W.grownBy (((W.setCell ⟨g, i, none⟩ v0).setCell ⟨g, i + 1, none⟩ v1).setCell ⟨g, i + 2, none⟩ v2) (some g) :=
  only_setCell (only_setCell (only_setCell (World.grownBy.refl W (some g)) (.inl rfl) _) (.inl rfl) _) (.inl rfl) _
theorem near_rowK {w0 : World} {b g n cap : Nat} {l : List (Ck × Slc)} (h : w0.ownsRow b 28 3 (.slice (some ⟨g, 0, none⟩) n cap) n (cellsK l)) {j : Nat} {y : Ck × Slc} (hy : l[j]? = some y) :
    (∀ q : NearW w0, q.W.cell? ⟨g, j * 3, none⟩ = some (.int .i64 y.1.st)) ∧ (∀ q : NearW w0, q.W.cell? ⟨g, j * 3 + 1, none⟩ = some (.int .i64 y.1.sl)) ∧ (∀ q : NearW w0, q.W.cell? ⟨g, j * 3 + 2, none⟩ = some (.slice y.2.A y.2.n y.2.c)) :=
  ⟨fun q => (own_cellK (own_on h q.h) hy).1, fun q => (own_cellK (own_on h q.h) hy).2.1, fun q => (own_cellK (own_on h q.h) hy).2.2⟩

set_option maxRecDepth 100000 in
set_option maxHeartbeats 4000000 in
theorem together_law (hS : ClkSendC) (hW : ClkWindowC) (hC : ClkCorrectC) (hE : ClkSeeC) (hN : ClkNextC) (m : ML) (c s : Slc) (a : Int) (zo : Slc) (off : List Int) (zd : Slc) (dft : List Int) (w : World) (hM : Med w m c s) (ho : Smalls .u16 w.heap.size w zo.A off) (hon : zo.n = off.length) (hom : zo.n ≤ maxLen) (hob : ∀ j, j < off.length → 0 ≤ nth off j ∧ nth off j ≤ 65535) (hd : Smalls .i8 w.heap.size w zd.A dft) (hdn : zd.n = dft.length) (hdm : zd.n ≤ maxLen) (hdb : ∀ j, j < dft.length → -128 ≤ nth dft j ∧ nth dft j ≤ 127) : Calls Try.prog 7 #[vM m c s, .int .i64 a, .slice zo.A zo.n zo.c, .slice zd.A zd.n zd.c] w fun e w' => e = .returned (.bool true) ∧ Below w.heap.size w w' := by
  have h0 := fun U => begun13_any hS hW hC U
  have hp := fun U (hb : Below w.heap.size w U) => rprecision_any m c s U (hM.on hb)
  have hs := fun (k : Ck) (v : Slc) U (hb : Below w.heap.size w U) (hk : CkOk U.heap.size U k v) => hS m c s k v U (hM.on hb) hk
  have he := fun (k : Ck) (v : Slc) (x : Int) U (hb : Below w.heap.size w U) (hk : CkOk U.heap.size U k v) => hE m c s k v x U (hM.on hb) hk
  have hn := fun (k : Ck) (v : Slc) (x : Int) U (hb : Below w.heap.size w U) (hk : CkOk U.heap.size U k v) => hN m c s k v x U (hM.on hb) hk
  unfold Pr at hp
  unfold ResCk at he hn
  have hpm : okM m → precM m = (0, 14 * m.N * m.D + 8) := fun h => by unfold precM; rw [if_pos (checkM_zero.2 h)]
  have hpn : ¬ okM m → precM m = (70, 0) := fun h => by unfold precM; rw [if_neg (fun h2 => h (checkM_zero.1 h2))]
  have hbn := fun h => okM_nums (m := m) h
  have htg : okM m → 0 ≤ a ∧ a ≤ 549755813888 → ∃ P : Int, P = 14 * m.N * m.D + 8 ∧ TgOk m a (fun i => a + offI off P i) (fun k i => dftI dft m.D m.N.toNat k i) := fun h ha => by
    have hn := okM_nums h
    have hp : 0 ≤ 14 * m.N * m.D + 8 := by
      have h1 : 0 ≤ m.N * m.D := Int.mul_nonneg (by omega) hn.2.1.1
      have h2 : 14 * m.N * m.D = 14 * (m.N * m.D) := by rw [Int.mul_assoc]
      omega
    refine ⟨_, rfl, h, ha, fun i => ?_, fun k i => dftI_in hn.2.1.1 _ _ _⟩
    have := offI_in hp hob i
    (try dsimp only)
    omega
  generalize precM m = PP at *
  clear hM hS hW hC hE hN
  have HTG := Lib.hid htg; have HBN := Lib.hid hbn; clear htg hbn
  obtain ⟨ok, hokm⟩ : ∃ ok, ok = okM m := ⟨_, rfl⟩
  have HOKM := Lib.hid hokm
  rw [← hokm] at hpm hpn
  clear hokm
  obtain ⟨m, hme⟩ : ∃ m', m' = m := ⟨_, rfl⟩
  subst hme
  obtain ⟨N, S, G, W, D, L, cold, ms⟩ := m
  obtain ⟨Ac, nc, cc⟩ := c
  obtain ⟨As, ns, cs⟩ := s
  obtain ⟨Ao, no, co⟩ := zo
  obtain ⟨Ad, nd, cd⟩ := zd
  dsimp only [vM] at *
  have HON := Lib.hid hon; have HO := Lib.hid ho; have HOB := Lib.hid hob; have HDR := Lib.hid hd; have HDN := Lib.hid hdn; have HDB := Lib.hid hdb
  unfold maxLen at hom hdm
  clear hon ho hob hd hdn hdb
  have H0 := Lib.hid h0; have HS := Lib.hid hs; have HE := Lib.hid he; have HN := Lib.hid hn; clear h0 hs he hn
  obtain ⟨km, bc⟩ := bx1 w #[.int .i64 N, .int .i64 S, .int .i64 G, .int .i64 W, .int .i64 D, .int .i64 L, .slice Ac nc cc, .slice As ns cs] 25
  obtain ⟨p0, p1, p2, p3, p4, p5, p6, p7⟩ := km.eight
  by_cases hok : ok
  rotate_left
  · obtain rfl := hpn hok
    dsimp only at hp
    have HP := Lib.hid hp
    clear hp hpm hpn
    go_enter Try.func7, Try.ntmps7
    go_wp2_with (first | (go_at_call 30; refine (HP.out _ bc).mono ?_; rintro e w1 ⟨rfl, hC⟩; dsimp only; (try clear p0 p1 p2 p3 p4 p5 p6 p7); replace km := km.on hC; replace bc := bc.trans (hC.mono bc.size); clear hC; obtain ⟨p0, p1, p2, p3, p4, p5, p6, p7⟩ := km.eight) | (go_at_call 11; refine (H0.out _).mono ?_; rintro e w2 ⟨rfl, hC⟩; dsimp only; (try clear p0 p1 p2 p3 p4 p5 p6 p7); replace km := km.on hC; replace bc := bc.trans (hC.mono bc.size); clear hC; obtain ⟨p0, p1, p2, p3, p4, p5, p6, p7⟩ := km.eight))
    go_ret
    exact ⟨rfl, bc⟩
  obtain rfl := hpm hok
  dsimp only at hp
  obtain ⟨P, hP⟩ : ∃ P, P = 14 * N * D + 8 := ⟨_, rfl⟩
  rw [← hP] at hp
  have HP := Lib.hid hp; have HPe := Lib.hid hP
  clear hp hP hpm hpn
  by_cases ha0 : 0 ≤ a
  rotate_left
  · have d1 : decide (a < 0) = true := by simp; omega
    go_enter Try.func7, Try.ntmps7
    go_wp2_with (first | (go_at_call 30; refine (HP.out _ bc).mono ?_; rintro e w1 ⟨rfl, hC⟩; dsimp only; (try clear p0 p1 p2 p3 p4 p5 p6 p7); replace km := km.on hC; replace bc := bc.trans (hC.mono bc.size); clear hC; obtain ⟨p0, p1, p2, p3, p4, p5, p6, p7⟩ := km.eight) | (go_at_call 11; refine (H0.out _).mono ?_; rintro e w2 ⟨rfl, hC⟩; dsimp only; (try clear p0 p1 p2 p3 p4 p5 p6 p7); replace km := km.on hC; replace bc := bc.trans (hC.mono bc.size); clear hC; obtain ⟨p0, p1, p2, p3, p4, p5, p6, p7⟩ := km.eight))
    go_ret
    exact ⟨rfl, bc⟩
  have d1 : decide (a < 0) = false := by simp; omega
  by_cases ha1 : a ≤ 549755813888
  rotate_left
  · have d2 : decide (549755813888 < a) = true := by simp; omega
    go_enter Try.func7, Try.ntmps7
    go_wp2_with (first | (go_at_call 30; refine (HP.out _ bc).mono ?_; rintro e w1 ⟨rfl, hC⟩; dsimp only; (try clear p0 p1 p2 p3 p4 p5 p6 p7); replace km := km.on hC; replace bc := bc.trans (hC.mono bc.size); clear hC; obtain ⟨p0, p1, p2, p3, p4, p5, p6, p7⟩ := km.eight) | (go_at_call 11; refine (H0.out _).mono ?_; rintro e w2 ⟨rfl, hC⟩; dsimp only; (try clear p0 p1 p2 p3 p4 p5 p6 p7); replace km := km.on hC; replace bc := bc.trans (hC.mono bc.size); clear hC; obtain ⟨p0, p1, p2, p3, p4, p5, p6, p7⟩ := km.eight))
    go_ret
    exact ⟨rfl, bc⟩
  have d2 : decide (549755813888 < a) = false := by simp; omega
  obtain ⟨P', hP', hT⟩ := HTG.out (by rw [← HOKM.out]; exact hok) ⟨ha0, ha1⟩
  obtain rfl : P' = P := by rw [hP', HPe.out]
  clear hP'
  obtain ⟨⟨n4, n8⟩, ⟨d0, d64⟩, -⟩ := HBN.out hT.ok
  (try dsimp only at n4 n8 d0 d64)
  (try dsimp only at hT)
  obtain ⟨n, rfl⟩ := Int.eq_ofNat_of_zero_le (show 0 ≤ N by omega)
  simp only [Int.toNat_natCast] at hT
  have hPb : 8 ≤ P' ∧ P' ≤ 7176 := by
    have h1 : (n : Int) * D ≤ 8 * 64 := Int.mul_le_mul n8 d64 d0 (by omega)
    have h2 : 0 ≤ (n : Int) * D := Int.mul_nonneg (by omega) d0
    have h3 : 14 * (n : Int) * D = 14 * ((n : Int) * D) := by rw [Int.mul_assoc]
    have := HPe.out
    omega
  have HT := Lib.hid hT; clear hT
  have hn8 : n ≤ 8 := by omega
  have hmk := run_make_clocks n (by omega)
  go_enter Try.func7, Try.ntmps7
  go_upto_region 5 with (first | (go_at_call 30; refine (HP.out _ bc).mono ?_; rintro e w1 ⟨rfl, hC⟩; dsimp only; (try clear p0 p1 p2 p3 p4 p5 p6 p7); replace km := km.on hC; replace bc := bc.trans (hC.mono bc.size); clear hC; obtain ⟨p0, p1, p2, p3, p4, p5, p6, p7⟩ := km.eight) | (go_at_call 11; refine (H0.out _).mono ?_; rintro e w2 ⟨rfl, hC⟩; dsimp only; (try clear p0 p1 p2 p3 p4 p5 p6 p7); replace km := km.on hC; replace bc := bc.trans (hC.mono bc.size); clear hC; obtain ⟨p0, p1, p2, p3, p4, p5, p6, p7⟩ := km.eight))
  have kq := Blk.new w2 28 (cellsK (List.replicate n zeroKs)).toArray
  have al := Below.al w2 (.cells (cellsK (List.replicate n zeroKs)).toArray 28)
  have hgq := km.lt
  have hrow := own_made_clocks (base := w2.heap.size) kq (Nat.le_refl _) (by omega)
  (try clear p0 p1 p2 p3 p4 p5 p6 p7)
  replace km := km.on al; replace bc := bc.trans (al.mono bc.size); clear al kq hmk
  generalize w2.alloc (.cells (cellsK (List.replicate n zeroKs)).toArray 28) = u1 at *
  generalize w2.heap.size = gq at *
  clear w2
  obtain ⟨o, ho⟩ : ∃ o : Nat → Int, o = fun i => a + offI off P' i := ⟨_, rfl⟩
  have hT := HT.out
  rw [← ho] at hT
  replace HT := Lib.hid hT; clear hT
  have HOf := Lib.hid ho; clear ho
  go_wp2_with fail
  go_loopw [52] (fun i wr => ∃ (j : Nat) (l : List (Ck × Slc)), j ≤ n ∧ i = .int .i64 j ∧ l.map Prod.fst = (List.range n).map (iniK a o j) ∧ wr.ownsRow gq 28 3 (.slice (some ⟨gq, 0, none⟩) n n) n (cellsK l) ∧ CksRd (gq + 1) l wr ∧ Blk wr w.heap.size 25 #[.int .i64 (n : Int), .int .i64 S, .int .i64 G, .int .i64 W, .int .i64 D, .int .i64 L, .slice Ac nc cc, .slice As ns cs] ∧ Below w.heap.size w wr)
    (fun i _ => n - (intOf i).toNat)
  case atStart => exact ⟨0, List.replicate n zeroKs, by omega, rfl, ini_zero n a o, hrow, cksrd_zeros _ _ _, km, bc⟩
  case round =>
    clear km bc hrow
    obtain ⟨j, l, hj, rfl, hl, hrow, hrd, km, bc⟩ := hrel
    obtain ⟨p0, p1, p2, p3, p4, p5, p6, p7⟩ := km.eight
    by_cases hlt : j < n
    · have hlt2 : (j : Int) < (n : Int) := by omega
      obtain ⟨y, hy, hyf⟩ := range_at hl hlt
      have hjl : j < l.length := (List.getElem?_eq_some_iff.1 hy).1
      obtain ⟨e0, e1, e2⟩ := own_cellK hrow hy
      have fz := (own_frozenK hrow (j * 3)).1
      go_upto_region 9 with fail
      have hG := only_setCell (World.grownBy.refl wr (some gq)) (p := ⟨gq, j * 3, none⟩) (.inl rfl) (.int .i64 a)
      have hrow2 := own_startK hrow hy a
      have hyr := (hrd y (List.mem_of_getElem? hy)).put hG (Nat.lt_succ_self gq)
      have hyi : y.1 = ⟨0, 0, []⟩ := by rw [hyf]; unfold iniK; rw [if_neg (by omega)]
      have hrd2 := CksRd.set (j := j) (y := ((⟨a, y.1.sl, y.1.dv⟩ : Ck), y.2)) (hrd.put hG (Nat.lt_succ_self gq)) (fun W' h1 h2 => by have := hyr W' h1 h2; exact ⟨this.d, this.dn, this.dc, this.dm, this.dz⟩)
      replace km := km.grown hG (some_ne (by omega)); replace bc := Below.off bc bc.size (by omega) hG
      clear hG hrow hrd fz e0 e1 e2 p0 p1 p2 p3 p4 p5 p6 p7
      generalize wr.setCell ⟨gq, j * 3, none⟩ (.int .i64 a) = u2 at *
      by_cases hoz : off.length = 0
      · have hno : no = 0 := by rw [HON.out]; exact hoz
        have dz : decide (0 < (no : Int)) = false := by simp; omega
        have hoj : o j = a := by rw [HOf.out]; dsimp only; unfold offI; rw [if_pos hoz]; omega
        have hl3 : (l.set j ((⟨a, y.1.sl, y.1.dv⟩ : Ck), y.2)).map Prod.fst = (List.range n).map (iniK a o (j + 1)) := ini_next hl hlt _ (by rw [hyi, hoj])
        have HL3 := Lib.hid hl3; have HR := Lib.hid hrow2; have HRD := Lib.hid hrd2
        clear hl3 hrow2 hrd2 hl hyr hyi hyf hy
        obtain ⟨p0, p1, p2, p3, p4, p5, p6, p7⟩ := km.eight
        go_wp2
        go_roundw
        case rel => exact ⟨j + 1, _, by omega, by go_num, HL3.out, HR.out, HRD.out, km, bc⟩
        case measure => simp [intOf]; omega
      · have hno : 0 < no := by rw [HON.out]; omega
        have dz : decide (0 < (no : Int)) = true := by simp; omega
        obtain ⟨q, hq⟩ : ∃ q, q = j % no := ⟨_, rfl⟩
        have hqn : q < no := by rw [hq]; exact Nat.mod_lt _ hno
        obtain ⟨bo, fo, hA, hbo, hco⟩ := (HO.out.below bc).at_ (j := q) (by rw [← HON.out]; exact hqn)
        subst hA
        have hoj : o j = a + (nth off q).tmod (P' + 1) := by rw [HOf.out]; dsimp only; unfold offI; rw [if_neg hoz, hq, HON.out]
        have hqb := HOB.out q (by rw [← HON.out]; exact hqn)
        have hl3 : (l.set j ((⟨o j, y.1.sl, y.1.dv⟩ : Ck), y.2)).map Prod.fst = (List.range n).map (iniK a o (j + 1)) := ini_next hl hlt _ (by rw [hyi])
        have hmod : (j : Int).tmod (no : Int) = (q : Int) := by rw [Int.tmod_eq_emod_of_nonneg (by omega), hq]; push_cast; rfl
        have hn0 : ¬ (no : Int) = 0 := by omega
        have ep : IntKind.i64.wrap (P' + 1) = P' + 1 := IntWalk.i64_in _ (by omega)
        have ep0 : ¬ P' + 1 = 0 := by omega
        have hrb : 0 ≤ (nth off q).tmod (P' + 1) ∧ (nth off q).tmod (P' + 1) < P' + 1 := ⟨Int.tmod_nonneg _ hqb.1, Int.tmod_lt_of_pos _ (by omega)⟩
        have ez : IntKind.i64.wrap (nth off q) = nth off q := IntWalk.i64_in _ (by omega)
        have er : IntKind.i64.wrap ((nth off q).tmod (P' + 1)) = (nth off q).tmod (P' + 1) := IntWalk.i64_in _ (by omega)
        have ea : IntKind.i64.wrap (a + (nth off q).tmod (P' + 1)) = o j := by rw [hoj]; exact IntWalk.i64_in _ (by omega)
        have hy3 : (l.set j ((⟨a, y.1.sl, y.1.dv⟩ : Ck), y.2))[j]? = some ((⟨a, y.1.sl, y.1.dv⟩ : Ck), y.2) := by rw [List.getElem?_set, if_pos rfl, if_pos hjl]
        have hd : Below u2.heap.size u2 u2.drew := (Below.refl _ _).drew
        have hrow3 := own_on hrow2 hd
        have hrow5 := own_startK hrow2 hy3 (o j)
        rw [List.set_set] at hrow5
        obtain ⟨e0, e1, e2⟩ := own_cellK hrow3 hy3
        have fz := (own_frozenK hrow3 (j * 3)).1
        have hco3 := (hd.cell (p := ⟨bo, fo + q, none⟩) (Nat.lt_of_lt_of_le hbo bc.size)).trans hco
        have hG := only_setCell (World.grownBy.refl u2 (some gq)) (p := ⟨gq, j * 3, none⟩) (.inl rfl) (.int .i64 (o j))
        have hrd5 := CksRd.set (j := j) (y := ((⟨o j, y.1.sl, y.1.dv⟩ : Ck), y.2)) (hrd2.put hG (Nat.lt_succ_self gq)) (fun W' h1 h2 => by have := (hyr.put hG (Nat.lt_succ_self gq)) W' h1 h2; exact ⟨this.d, this.dn, this.dc, this.dm, this.dz⟩)
        rw [List.set_set] at hrd5
        have km5 := km.grown hG (some_ne (by omega)); have bc5 := Below.off bc bc.size (by omega) hG
        have hd5 : Below (u2.setCell ⟨gq, j * 3, none⟩ (.int .i64 (o j))).heap.size (u2.setCell ⟨gq, j * 3, none⟩ (.int .i64 (o j))) (u2.setCell ⟨gq, j * 3, none⟩ (.int .i64 (o j))).drew := (Below.refl _ _).drew
        replace hrow5 := own_on hrow5 hd5; replace hrd5 := hrd5.on hd5; replace km5 := km5.on hd5; replace bc5 := bc5.trans (hd5.mono bc5.size)
        have HL3 := Lib.hid hl3; have HR := Lib.hid hrow5; have HRD := Lib.hid hrd5; have KM := Lib.hid km5; have BC := Lib.hid bc5
        clear hl3 hrow2 hrow3 hrow5 hrd2 hrd5 hl hyr hyi hyf hy hy3 hG km km5 bc bc5 hoj hqb hrb hd hd5 hq hco
        go_wp2_with fail
        go_region
        clear e0 e1 e2 fz hco3 hmod ep ep0 ez er ea
        generalize (u2.setCell ⟨gq, j * 3, none⟩ (.int .i64 (o j))).drew = u3 at *
        clear u2
        go_wp2
        go_roundw
        case rel => exact ⟨j + 1, _, by omega, by go_num, HL3.out, HR.out, HRD.out, KM.out, BC.out⟩
        case measure => simp [intOf]; omega
    · obtain rfl : j = n := by omega
      have dj : decide ((j : Int) < (j : Int)) = false := by simp
      obtain ⟨d, hd⟩ : ∃ d : Nat → Nat → Int, d = fun k i => dftI dft D j k i := ⟨_, rfl⟩
      have hT := HT.out
      rw [← hd] at hT
      replace HT := Lib.hid hT; clear hT
      have HDf := Lib.hid hd; clear hd
      have hl0 := hl.trans (ini_at S d (show 0 < j by omega))
      have HL := Lib.hid hl0; have HRW := Lib.hid hrow; have HRD := Lib.hid hrd
      clear hl hl0 hrow hrd
      go_wp2_with fail
      clear p0 p1 p2 p3 p4 p5 p6 p7 dj hj
      have n0 : 4 ≤ j := by omega
      obtain ⟨u2, hu2⟩ : ∃ u, u = wr := ⟨_, rfl⟩
      subst hu2
      obtain ⟨n, hnj⟩ : ∃ n, n = j := ⟨_, rfl⟩
      subst hnj
      go_loopw [85] (fun i wr => ∃ (k : Nat) (l : List (Ck × Slc)), k ≤ n ∧ i = .int .i64 k ∧ l.map Prod.fst = (List.range n).map (atK S o d n k) ∧ wr.ownsRow gq 28 3 (.slice (some ⟨gq, 0, none⟩) n n) n (cellsK l) ∧ CksRd (gq + 1) l wr ∧ Blk wr w.heap.size 25 #[.int .i64 (n : Int), .int .i64 S, .int .i64 G, .int .i64 W, .int .i64 D, .int .i64 L, .slice Ac nc cc, .slice As ns cs] ∧ Below w.heap.size w wr)
        (fun i _ => n - (intOf i).toNat)
      case atStart => exact ⟨0, l, by omega, rfl, HL.out, HRW.out, HRD.out, km, bc⟩
      case round =>
        clear km bc HL HRW HRD l
        obtain ⟨k, l, hk, rfl, hl, hrow, hrd, km, bc⟩ := hrel
        by_cases hlk : k < n
        · have hlk2 : (k : Int) < (n : Int) := by omega
          rw [at_seen S o d hlk] at hl
          obtain ⟨⟨⟨st, sl, dv⟩, ⟨A, nv, cv⟩⟩, hy, hyf⟩ := range_at hl hlk
          have hyr := hrd _ (List.mem_of_getElem? hy)
          dsimp only at hyf hyr
          have hyf2 : (⟨st, sl, dv⟩ : Ck) = ckI S o d k k k := by rw [hyf]; unfold seenK; rw [if_neg (by omega)]
          have hsd := fun U (hb : Below w.heap.size w U) (h : CkOk U.heap.size U ⟨st, sl, dv⟩ ⟨A, nv, cv⟩) => HS.out ⟨st, sl, dv⟩ ⟨A, nv, cv⟩ U hb h
          have hts := tg_send HT.out k k k (by dsimp only; omega) (by dsimp only; omega)
          dsimp only at hts
          rw [hyf2, hts, ← hyf2] at hsd
          obtain ⟨at_, hat⟩ : ∃ z, z = stI S o d k k + G := ⟨_, rfl⟩
          rw [← hat] at hsd
          dsimp only [cK] at hsd
          have HAT := Lib.hid hat
          have HL := Lib.hid hl
          clear hat hts hyf hyf2 hl
          obtain ⟨p0, p1, p2, p3, p4, p5, p6, p7⟩ := near_eight8K km
          obtain ⟨e0, e1, e2⟩ := near_rowK hrow hy
          dsimp only at e0 e1 e2
          have HSD := Lib.hid (fun nw : NearW wr => hsd nw.W (bc.trans (nw.h.mono bc.size)) (hyr.on nw.h).ok)
          have HRW := Lib.hid hrow; have HRD := Lib.hid hrd; have KM := Lib.hid km; have BC := Lib.hid bc
          clear hsd hyr hy hrow hrd km bc
          go_wp2_with fail
          refine wp_region_near (by kernel_rfl) (by kernel_rfl) ?_
          repeat (go_big_quiet_step (first
            | (go_at_call 18; with_reducible exact near_call (HSD.out _))))
          refine wpQuiet_nil ?_
          rintro _ ⟨nw, rfl⟩
          clear p0 p1 p2 p3 p4 p5 p6 p7 e0 e1 e2 HSD
          have hrow := own_on HRW.out nw.h; have hrd := HRD.out.on nw.h; have km := KM.out.on nw.h; have bc := BC.out.trans (nw.h.mono BC.out.size)
          clear HRW HRD KM BC
          obtain ⟨u3, hu3⟩ : ∃ u, u = nw.W := ⟨_, rfl⟩
          rw [← hu3] at hrow hrd km bc ⊢
          clear hu3 nw wr
          go_wp2_with fail
          have hatb : 0 ≤ at_ ∧ at_ ≤ 700000000000 ∧ 0 ≤ L ∧ L ≤ 64 := by
            obtain ⟨-, -, ⟨l0, l64⟩, -, ⟨g9, g8⟩, -⟩ := HBN.out HT.out.ok
            obtain ⟨-, -, -, ⟨w16, -⟩, -⟩ := HBN.out HT.out.ok
            have h1 := tg_st HT.out k k (by omega)
            dsimp only at h1
            have := HAT.out
            omega
          obtain ⟨at0, at1, l0, l1⟩ := hatb
          have eL : IntKind.i64.wrap (at_ + L) = at_ + L := IntWalk.i64_in _ (by omega)
          go_loopw [101] (fun i wr => ∃ (q : Nat) (l : List (Ck × Slc)), q ≤ n ∧ i = .int .i64 q ∧ l.map Prod.fst = (List.range n).map (seenK S o d k q) ∧ wr.ownsRow gq 28 3 (.slice (some ⟨gq, 0, none⟩) n n) n (cellsK l) ∧ CksRd (gq + 1) l wr ∧ Blk wr w.heap.size 25 #[.int .i64 (n : Int), .int .i64 S, .int .i64 G, .int .i64 W, .int .i64 D, .int .i64 L, .slice Ac nc cc, .slice As ns cs] ∧ Below w.heap.size w wr)
            (fun i _ => n - (intOf i).toNat)
          case atStart => exact ⟨0, l, by omega, rfl, HL.out, hrow, hrd, km, bc⟩
          case round =>
            clear km bc HL hrow hrd l
            obtain ⟨q, l, hq, rfl, hl, hrow, hrd, km, bc⟩ := hrel
            by_cases hlq : q < n
            · have hlq2 : (q : Int) < (n : Int) := by omega
              by_cases hqk : q = k
              · subst hqk
                have dq : ((q : Int) == (q : Int)) = true := by simp
                have hl3 := hl.trans (seen_own S o d n q)
                have HL3 := Lib.hid hl3; have HR := Lib.hid hrow; have HRD := Lib.hid hrd; have KM := Lib.hid km; have BC := Lib.hid bc
                clear hl hl3 hrow hrd km bc
                go_wp2
                go_roundw
                case rel => exact ⟨q + 1, l, by omega, by go_num, HL3.out, HR.out, HRD.out, KM.out, BC.out⟩
                case measure => simp [intOf]; omega
              · have dq : ((q : Int) == (k : Int)) = false := by simp; omega
                obtain ⟨⟨⟨st, sl, dv⟩, ⟨A, nv, cv⟩⟩, hy, hyf⟩ := range_at hl hlq
                have hyr := hrd _ (List.mem_of_getElem? hy)
                dsimp only at hyf hyr
                have hyf2 : (⟨st, sl, dv⟩ : Ck) = ckI S o d q k k := by rw [hyf]; unfold seenK; rw [if_neg (by omega)]
                have hse := fun U (hb : Below w.heap.size w U) (h : CkOk U.heap.size U ⟨st, sl, dv⟩ ⟨A, nv, cv⟩) => HE.out ⟨st, sl, dv⟩ ⟨A, nv, cv⟩ (at_ + L) U hb h
                have hts := tg_see HT.out q k (by dsimp only; omega) hqk
                dsimp only at hts
                obtain ⟨⟨s2, l2, d2⟩, hck2⟩ : ∃ y2 : Ck, y2 = ckI S o d q k (k + 1) := ⟨_, rfl⟩
                rw [hyf2, HAT.out, hts, ← hyf2, ← HAT.out, ← hck2] at hse
                dsimp only [cK] at hse
                have HCK2 := Lib.hid hck2
                clear hts hyf hyf2 hck2
                have hdr : Below wr.heap.size wr wr.drew := (Below.refl _ _).drew
                have halA : Below wr.heap.size wr ((wr.alloc (.cells #[.int .i64 0, .int .i64 0, .slice none 0 0] 28)).drew) := (Below.al wr (.cells #[.int .i64 0, .int .i64 0, .slice none 0 0] 28)).drew
                have kxA : Blk ((wr.alloc (.cells #[.int .i64 0, .int .i64 0, .slice none 0 0] 28)).drew) wr.heap.size 28 #[.int .i64 0, .int .i64 0, .slice none 0 0] := (Blk.new wr 28 #[.int .i64 0, .int .i64 0, .slice none 0 0]).on (Below.refl _ _).drew
                have heA := hse _ (bc.trans (halA.mono bc.size)) (hyr.on halA).ok
                have he1 := hse _ (bc.trans (hdr.mono bc.size)) (hyr.on hdr).ok
                have hs1 : wr.heap.size ≤ wr.drew.heap.size := hdr.size
                have hsA : wr.heap.size < (wr.alloc (.cells #[.int .i64 0, .int .i64 0, .slice none 0 0] 28)).drew.heap.size := kxA.lt
                have hgq1 : gq < wr.heap.size := (own_frozenK hrow 0).2.2
                have hgw : w.heap.size < gq := hgq
                have hjl : q < l.length := (List.getElem?_eq_some_iff.1 hy).1
                have KT := Lib.hid (fun W (hb : Below wr.heap.size wr W) => keepT (km.on hb) (own_on hrow hb) hy)
                have HL := Lib.hid hl; have HRW := Lib.hid hrow; have HRD := Lib.hid hrd; have KM := Lib.hid km; have BC := Lib.hid bc; have HY := Lib.hid hy
                clear hl hrow hrd km bc hy hyr hse
                go_wp2_with fail
                go_region_held3 (fun w' => w'.cell? ⟨w.heap.size, 0, none⟩ = some (.int .i64 (n : Int)) ∧ w'.cell? ⟨w.heap.size, 1, none⟩ = some (.int .i64 S) ∧ w'.cell? ⟨w.heap.size, 2, none⟩ = some (.int .i64 G) ∧ w'.cell? ⟨w.heap.size, 3, none⟩ = some (.int .i64 W) ∧ w'.cell? ⟨w.heap.size, 4, none⟩ = some (.int .i64 D) ∧ w'.cell? ⟨w.heap.size, 5, none⟩ = some (.int .i64 L) ∧ w'.cell? ⟨w.heap.size, 6, none⟩ = some (.slice Ac nc cc) ∧ w'.cell? ⟨w.heap.size, 7, none⟩ = some (.slice As ns cs) ∧ w'.cell? ⟨gq, q * 3, none⟩ = some (.int .i64 st) ∧ w'.cell? ⟨gq, q * 3 + 1, none⟩ = some (.int .i64 sl) ∧ w'.cell? ⟨gq, q * 3 + 2, none⟩ = some (.slice A nv cv))
                  (first | with_reducible exact KT.out _ hdr | with_reducible exact KT.out _ halA | with_reducible exact KT.out _ hb3 | exact KT.out _ (hb3.trans ((Below.al _ _).mono hb3.size)) | exact KT.out _ (Below.off hb3 hb3.size (Nat.le_refl _) (grown3K _ _ _ _ _)))
                  (first
                  | (go_at_call 23; refine he1.mono ?_; rintro e w3 ⟨⟨A3, n3, c3⟩, rfl, hf3, hC⟩; dsimp only; have hb3 := hdr.trans (hC.mono hdr.size); have hs3 := Nat.le_trans hs1 hC.size; have hf4 := hf3.mono (Nat.le_trans hgq1 hs1); clear hC)
                  | (go_at_call 23; refine heA.mono ?_; rintro e w3 ⟨⟨A3, n3, c3⟩, rfl, hf3, hC⟩; dsimp only; have hb3 := halA.trans (hC.mono halA.size); have kx4 := kxA.on hC; have hs3 := Nat.le_trans (Nat.le_of_lt hsA) hC.size; clear hC; obtain ⟨u0, u1, u2, v0, v1, v2⟩ := kx4.three))
                all_goals
                  first
                    | (have hG := grown3K w3 wr.heap.size (.int .i64 s2) (.int .i64 l2) (.slice A3 n3 c3); have kx := kx4.put3K (.int .i64 s2) (.int .i64 l2) (.slice A3 n3 c3); have hb := Below.off hb3 hb3.size (Nat.le_refl _) hG; have hf := (hf3.put hG hsA).mono (Nat.le_trans hgq1 (Nat.le_of_lt hsA)); have hgx : gq < wr.heap.size := hgq1; clear hG u0 u1 u2 v0 v1 v2 kx4; generalize ((w3.setCell ⟨wr.heap.size, 0, none⟩ (.int .i64 s2)).setCell ⟨wr.heap.size, 1, none⟩ (.int .i64 l2)).setCell ⟨wr.heap.size, 2, none⟩ (.slice A3 n3 c3) = U at *; generalize wr.heap.size = gx at hgx kx ⊢)
                    | (have kx := Blk.new w3 28 #[.int .i64 s2, .int .i64 l2, .slice A3 n3 c3]; have al := Below.al w3 (.cells #[.int .i64 s2, .int .i64 l2, .slice A3 n3 c3] 28); have hb := hb3.trans (al.mono hb3.size); have hf := hf4.on al; have hgx : gq < w3.heap.size := Nat.lt_of_lt_of_le hgq1 hs3; clear al; generalize w3.alloc (.cells #[.int .i64 s2, .int .i64 l2, .slice A3 n3 c3] 28) = U at *; generalize w3.heap.size = gx at hgx kx ⊢)
                  have km := KM.out.on hb; have hrow := own_on HRW.out hb; have hrd := HRD.out.on hb; have bc := BC.out.trans (hb.mono BC.out.size)
                  clear heA he1 hs1 hsA hdr halA kxA KT HRW HRD KM BC hgq1 hf3 hb3
                  (try clear hs3)
                  (try clear hf4)
                  obtain ⟨x0, x1, x2, -⟩ := kx.three
                  have fz0 := (own_frozenK hrow (q * 3)).1; have fz1 := (own_frozenK hrow (q * 3 + 1)).1; have fz2 := (own_frozenK hrow (q * 3 + 2)).1
                  have hG2 := grownK3 U gq (q * 3) (.int .i64 s2) (.int .i64 l2) (.slice A3 n3 c3)
                  have hrow5 := own_clockK hrow hjl ((⟨s2, l2, d2⟩ : Ck), (⟨A3, n3, c3⟩ : Slc))
                  have hrd5 := CksRd.set (j := q) (y := ((⟨s2, l2, d2⟩ : Ck), (⟨A3, n3, c3⟩ : Slc))) (hrd.put hG2 (Nat.lt_succ_self gq)) (hf.put hG2 (Nat.lt_succ_self gq))
                  have km5 := km.grown hG2 (some_ne (by omega)); have bc5 := Below.off bc bc.size (by omega) hG2
                  have hl3 := seen_put HL.out hlq (⟨s2, l2, d2⟩ : Ck) (⟨A3, n3, c3⟩ : Slc) HCK2.out
                  dsimp only at hrow5
                  have HL3 := Lib.hid hl3; have HR5 := Lib.hid hrow5; have HD5 := Lib.hid hrd5; have KM5 := Lib.hid km5; have BC5 := Lib.hid bc5
                  clear hl3 hrow hrow5 hrd hrd5 km km5 bc bc5 hG2 hf kx hb HL HY
                  go_wp2
                  go_roundw
                  case rel => exact ⟨q + 1, _, by omega, by go_num, HL3.out, HR5.out, HD5.out, KM5.out, BC5.out⟩
                  case measure => simp [intOf]; omega
            · obtain rfl : n = q := by omega
              have dq : decide ((n : Int) < (n : Int)) = false := by simp
              have hl0 := hl.trans (seen_nexts S o d n k)
              have HL := Lib.hid hl0
              clear hl hl0 eL at0 at1 l0 l1
              go_wp2_with fail
              clear dq
              obtain ⟨w7, hw7⟩ : ∃ u, u = wr := ⟨_, rfl⟩
              subst hw7
              go_loopw [129] (fun i wr => ∃ (q : Nat) (l : List (Ck × Slc)), q ≤ n ∧ i = .int .i64 q ∧ l.map Prod.fst = (List.range n).map (nextsK S o d n k q) ∧ wr.ownsRow gq 28 3 (.slice (some ⟨gq, 0, none⟩) n n) n (cellsK l) ∧ CksRd (gq + 1) l wr ∧ Blk wr w.heap.size 25 #[.int .i64 (n : Int), .int .i64 S, .int .i64 G, .int .i64 W, .int .i64 D, .int .i64 L, .slice Ac nc cc, .slice As ns cs] ∧ Below w.heap.size w wr)
                (fun i _ => n - (intOf i).toNat)
              case atStart => exact ⟨0, l, by omega, rfl, HL.out, hrow, hrd, km, bc⟩
              case round =>
                clear km bc HL hrow hrd l
                obtain ⟨q, l, hq, rfl, hl, hrow, hrd, km, bc⟩ := hrel
                by_cases hlq : q < n
                · have hlq2 : (q : Int) < (n : Int) := by omega
                  obtain ⟨⟨⟨st, sl, dv⟩, ⟨A, nv, cv⟩⟩, hy, hyf⟩ := range_at hl hlq
                  have hyr := hrd _ (List.mem_of_getElem? hy)
                  dsimp only at hyf hyr
                  have hyf2 : (⟨st, sl, dv⟩ : Ck) = ckI S o d q k (k + 1) := by rw [hyf]; unfold nextsK; rw [if_neg (by omega)]
                  obtain ⟨df, hdf⟩ : ∃ z, z = d k q := ⟨_, rfl⟩
                  have hse := fun U (hb : Below w.heap.size w U) (h : CkOk U.heap.size U ⟨st, sl, dv⟩ ⟨A, nv, cv⟩) => HN.out ⟨st, sl, dv⟩ ⟨A, nv, cv⟩ df U hb h
                  have hts := tg_next HT.out (n := n) rfl q k hlk
                  dsimp only at hts
                  obtain ⟨⟨s2, l2, d2⟩, hck2⟩ : ∃ y2 : Ck, y2 = atK S o d n (k + 1) q := ⟨_, rfl⟩
                  rw [hyf2, hdf, hts, ← hyf2, ← hdf, ← hck2] at hse
                  dsimp only [cK] at hse
                  have HCK2 := Lib.hid hck2
                  clear hts hyf hyf2 hck2
                  by_cases hdz : dft.length = 0
                  · have hnd : nd = 0 := by rw [HDN.out]; exact hdz
                    have dz : decide (0 < (nd : Int)) = false := by simp; omega
                    have dz2 : decide (0 < nd) = false := by simp; omega
                    have dz3 : ¬ 0 < nd := by omega
                    have hd0 : df = 0 := by rw [hdf, HDf.out]; dsimp only; unfold dftI; rw [if_pos hdz]
                    subst hd0
                    clear hdf hnd hdz
                    have hdr : Below wr.heap.size wr wr.drew := (Below.refl _ _).drew
                    have halA : Below wr.heap.size wr ((wr.alloc (.cells #[.int .i64 0, .int .i64 0, .slice none 0 0] 28)).drew) := (Below.al wr (.cells #[.int .i64 0, .int .i64 0, .slice none 0 0] 28)).drew
                    have kxA : Blk ((wr.alloc (.cells #[.int .i64 0, .int .i64 0, .slice none 0 0] 28)).drew) wr.heap.size 28 #[.int .i64 0, .int .i64 0, .slice none 0 0] := (Blk.new wr 28 #[.int .i64 0, .int .i64 0, .slice none 0 0]).on (Below.refl _ _).drew
                    have heA := hse _ (bc.trans (halA.mono bc.size)) (hyr.on halA).ok
                    have he1 := hse _ (bc.trans (hdr.mono bc.size)) (hyr.on hdr).ok
                    have hs1 : wr.heap.size ≤ wr.drew.heap.size := hdr.size
                    have hsA : wr.heap.size < (wr.alloc (.cells #[.int .i64 0, .int .i64 0, .slice none 0 0] 28)).drew.heap.size := kxA.lt
                    have hgq1 : gq < wr.heap.size := (own_frozenK hrow 0).2.2
                    have hgw : w.heap.size < gq := hgq
                    have hjl : q < l.length := (List.getElem?_eq_some_iff.1 hy).1
                    have KT := Lib.hid (fun W (hb : Below wr.heap.size wr W) => keepT (km.on hb) (own_on hrow hb) hy)
                    have HL := Lib.hid hl; have HRW := Lib.hid hrow; have HRD := Lib.hid hrd; have KM := Lib.hid km; have BC := Lib.hid bc; have HY := Lib.hid hy
                    clear hl hrow hrd km bc hy hyr hse
                    go_wp2_with fail
                    go_region_held3 (fun w' => w'.cell? ⟨w.heap.size, 0, none⟩ = some (.int .i64 (n : Int)) ∧ w'.cell? ⟨w.heap.size, 1, none⟩ = some (.int .i64 S) ∧ w'.cell? ⟨w.heap.size, 2, none⟩ = some (.int .i64 G) ∧ w'.cell? ⟨w.heap.size, 3, none⟩ = some (.int .i64 W) ∧ w'.cell? ⟨w.heap.size, 4, none⟩ = some (.int .i64 D) ∧ w'.cell? ⟨w.heap.size, 5, none⟩ = some (.int .i64 L) ∧ w'.cell? ⟨w.heap.size, 6, none⟩ = some (.slice Ac nc cc) ∧ w'.cell? ⟨w.heap.size, 7, none⟩ = some (.slice As ns cs) ∧ w'.cell? ⟨gq, q * 3, none⟩ = some (.int .i64 st) ∧ w'.cell? ⟨gq, q * 3 + 1, none⟩ = some (.int .i64 sl) ∧ w'.cell? ⟨gq, q * 3 + 2, none⟩ = some (.slice A nv cv))
                      (first | with_reducible exact KT.out _ hdr | with_reducible exact KT.out _ halA | with_reducible exact KT.out _ hb3 | exact KT.out _ (hb3.trans ((Below.al _ _).mono hb3.size)) | exact KT.out _ (Below.off hb3 hb3.size (Nat.le_refl _) (grown3K _ _ _ _ _)))
                      (first
                      | (go_at_call 25; refine he1.mono ?_; rintro e w3 ⟨⟨A3, n3, c3⟩, rfl, hf3, hC⟩; dsimp only; have hb3 := hdr.trans (hC.mono hdr.size); have hs3 := Nat.le_trans hs1 hC.size; have hf4 := hf3.mono (Nat.le_trans hgq1 hs1); clear hC)
                      | (go_at_call 25; refine heA.mono ?_; rintro e w3 ⟨⟨A3, n3, c3⟩, rfl, hf3, hC⟩; dsimp only; have hb3 := halA.trans (hC.mono halA.size); have kx4 := kxA.on hC; have hs3 := Nat.le_trans (Nat.le_of_lt hsA) hC.size; clear hC; obtain ⟨u0, u1, u2, v0, v1, v2⟩ := kx4.three))
                    all_goals
                      first
                        | (have hG := grown3K w3 wr.heap.size (.int .i64 s2) (.int .i64 l2) (.slice A3 n3 c3); have kx := kx4.put3K (.int .i64 s2) (.int .i64 l2) (.slice A3 n3 c3); have hb := Below.off hb3 hb3.size (Nat.le_refl _) hG; have hf := (hf3.put hG hsA).mono (Nat.le_trans hgq1 (Nat.le_of_lt hsA)); have hgx : gq < wr.heap.size := hgq1; clear hG u0 u1 u2 v0 v1 v2 kx4; generalize ((w3.setCell ⟨wr.heap.size, 0, none⟩ (.int .i64 s2)).setCell ⟨wr.heap.size, 1, none⟩ (.int .i64 l2)).setCell ⟨wr.heap.size, 2, none⟩ (.slice A3 n3 c3) = U at *; generalize wr.heap.size = gx at hgx kx ⊢)
                        | (have kx := Blk.new w3 28 #[.int .i64 s2, .int .i64 l2, .slice A3 n3 c3]; have al := Below.al w3 (.cells #[.int .i64 s2, .int .i64 l2, .slice A3 n3 c3] 28); have hb := hb3.trans (al.mono hb3.size); have hf := hf4.on al; have hgx : gq < w3.heap.size := Nat.lt_of_lt_of_le hgq1 hs3; clear al; generalize w3.alloc (.cells #[.int .i64 s2, .int .i64 l2, .slice A3 n3 c3] 28) = U at *; generalize w3.heap.size = gx at hgx kx ⊢)
                      have km := KM.out.on hb; have hrow := own_on HRW.out hb; have hrd := HRD.out.on hb; have bc := BC.out.trans (hb.mono BC.out.size)
                      clear heA he1 hs1 hsA hdr halA kxA KT HRW HRD KM BC hgq1 hf3 hb3
                      (try clear hs3)
                      (try clear hf4)
                      obtain ⟨x0, x1, x2, -⟩ := kx.three
                      have fz0 := (own_frozenK hrow (q * 3)).1; have fz1 := (own_frozenK hrow (q * 3 + 1)).1; have fz2 := (own_frozenK hrow (q * 3 + 2)).1
                      have hG2 := grownK3 U gq (q * 3) (.int .i64 s2) (.int .i64 l2) (.slice A3 n3 c3)
                      have hrow5 := own_clockK hrow hjl ((⟨s2, l2, d2⟩ : Ck), (⟨A3, n3, c3⟩ : Slc))
                      have hrd5 := CksRd.set (j := q) (y := ((⟨s2, l2, d2⟩ : Ck), (⟨A3, n3, c3⟩ : Slc))) (hrd.put hG2 (Nat.lt_succ_self gq)) (hf.put hG2 (Nat.lt_succ_self gq))
                      have km5 := km.grown hG2 (some_ne (by omega)); have bc5 := Below.off bc bc.size (by omega) hG2
                      have hl3 := nexts_put HL.out hlq (⟨s2, l2, d2⟩ : Ck) (⟨A3, n3, c3⟩ : Slc) HCK2.out
                      dsimp only at hrow5
                      have HL3 := Lib.hid hl3; have HR5 := Lib.hid hrow5; have HD5 := Lib.hid hrd5; have KM5 := Lib.hid km5; have BC5 := Lib.hid bc5
                      clear hl3 hrow hrow5 hrd hrd5 km km5 bc bc5 hG2 hf kx hb HL HY
                      go_wp2
                      go_roundw
                      case rel => exact ⟨q + 1, _, by omega, by go_num, HL3.out, HR5.out, HD5.out, KM5.out, BC5.out⟩
                      case measure => simp [intOf]; omega
                  · have hnd : 0 < nd := by have := HDN.out; omega
                    have dz : decide (0 < (nd : Int)) = true := by simp; omega
                    have dz2 : decide (0 < nd) = true := by simp; omega
                    obtain ⟨r, hr⟩ : ∃ r, r = (k * n + q) % nd := ⟨_, rfl⟩
                    have hrn : r < nd := by rw [hr]; exact Nat.mod_lt _ hnd
                    obtain ⟨bd, fd, hA, hbd, hcd⟩ := (HDR.out.below bc).at_ (j := r) (by rw [← HDN.out]; exact hrn)
                    subst hA
                    have hd1 : df = (nth dft r).tmod (D + 1) := by rw [hdf, HDf.out]; dsimp only; unfold dftI; rw [if_neg hdz, hr, HDN.out]
                    have hdb := HDB.out r (by rw [← HDN.out]; exact hrn)
                    have hdd : -D ≤ df ∧ df ≤ D := by rw [hdf]; exact HT.out.dd k q
                    have hkn : k * n + q ≤ 64 := by have := Nat.mul_le_mul (show k ≤ 7 by omega) hn8; omega
                    have hkc : (k : Int) * (n : Int) = ((k * n : Nat) : Int) := by push_cast; rfl
                    have em : IntKind.i64.wrap ((k : Int) * (n : Int)) = (k : Int) * (n : Int) := by rw [hkc]; exact IntWalk.i64_in _ (by omega)
                    have es : IntKind.i64.wrap ((k : Int) * (n : Int) + (q : Int)) = (k : Int) * (n : Int) + (q : Int) := by rw [hkc]; exact IntWalk.i64_in _ (by omega)
                    have hmod : ((k : Int) * (n : Int) + (q : Int)).tmod (nd : Int) = (r : Int) := by
                      rw [show (k : Int) * (n : Int) + (q : Int) = ((k * n + q : Nat) : Int) by push_cast; rfl, Int.tmod_eq_emod_of_nonneg (by omega), hr]; push_cast; rfl
                    have hn0 : ¬ (nd : Int) = 0 := by omega
                    have eD : IntKind.i64.wrap (D + 1) = D + 1 := IntWalk.i64_in _ (by omega)
                    have eD0 : ¬ D + 1 = 0 := by omega
                    have ez : IntKind.i64.wrap (nth dft r) = nth dft r := IntWalk.i64_in _ (by omega)
                    have et : IntKind.i64.wrap ((nth dft r).tmod (D + 1)) = df := by rw [← hd1]; exact IntWalk.i64_in _ (by omega)
                    have er : IntKind.i64.wrap (r : Int) = (r : Int) := IntWalk.i64_in _ (by omega)
                    obtain ⟨p0, p1, p2, p3, p4, p5, p6, p7⟩ := near_eight8K km
                    have m0 := near_cellK (Nat.lt_of_lt_of_le hbd bc.size) hcd
                    have HL := Lib.hid hl; have HRW := Lib.hid hrow; have HRD := Lib.hid hrd; have KM := Lib.hid km; have BC := Lib.hid bc; have HY := Lib.hid hy; have HYR := Lib.hid hyr; have HSE := Lib.hid hse; have HD1 := Lib.hid hd1
                    clear hl hrow hrd km bc hy hyr hse hdf hd1 hdb hdd hkn hkc hr hcd hdz
                    go_wp2_with fail
                    refine wp_region_near (by kernel_rfl) (by kernel_rfl) ?_
                    repeat (go_big_quiet_step (first | fail))
                    refine wpQuiet_nil ?_
                    rintro _ ⟨nw, rfl⟩
                    clear p0 p1 p2 p3 p4 p5 p6 p7 m0 em es hmod hn0 eD eD0 ez et er
                    have hl := HL.out; have hrow := own_on HRW.out nw.h; have hrd := HRD.out.on nw.h; have km := KM.out.on nw.h; have bc := BC.out.trans (nw.h.mono BC.out.size); have hy := HY.out; have hyr := HYR.out.on nw.h; have hse := HSE.out
                    clear HL HRW HRD KM BC HY HYR HSE
                    rw [← HD1.out]
                    clear HD1
                    obtain ⟨u3, hu3⟩ : ∃ u, u = nw.W := ⟨_, rfl⟩
                    rw [← hu3] at hrow hrd km bc hyr ⊢
                    clear hu3 nw wr
                    obtain ⟨wr, hwr⟩ : ∃ u, u = u3 := ⟨_, rfl⟩
                    subst hwr
                    have hdr : Below wr.heap.size wr wr.drew := (Below.refl _ _).drew
                    have halA : Below wr.heap.size wr ((wr.alloc (.cells #[.int .i64 0, .int .i64 0, .slice none 0 0] 28)).drew) := (Below.al wr (.cells #[.int .i64 0, .int .i64 0, .slice none 0 0] 28)).drew
                    have kxA : Blk ((wr.alloc (.cells #[.int .i64 0, .int .i64 0, .slice none 0 0] 28)).drew) wr.heap.size 28 #[.int .i64 0, .int .i64 0, .slice none 0 0] := (Blk.new wr 28 #[.int .i64 0, .int .i64 0, .slice none 0 0]).on (Below.refl _ _).drew
                    have heA := hse _ (bc.trans (halA.mono bc.size)) (hyr.on halA).ok
                    have he1 := hse _ (bc.trans (hdr.mono bc.size)) (hyr.on hdr).ok
                    have hs1 : wr.heap.size ≤ wr.drew.heap.size := hdr.size
                    have hsA : wr.heap.size < (wr.alloc (.cells #[.int .i64 0, .int .i64 0, .slice none 0 0] 28)).drew.heap.size := kxA.lt
                    have hgq1 : gq < wr.heap.size := (own_frozenK hrow 0).2.2
                    have hgw : w.heap.size < gq := hgq
                    have hjl : q < l.length := (List.getElem?_eq_some_iff.1 hy).1
                    have KT := Lib.hid (fun W (hb : Below wr.heap.size wr W) => keepT (km.on hb) (own_on hrow hb) hy)
                    have HL := Lib.hid hl; have HRW := Lib.hid hrow; have HRD := Lib.hid hrd; have KM := Lib.hid km; have BC := Lib.hid bc; have HY := Lib.hid hy
                    clear hl hrow hrd km bc hy hyr hse
                    go_wp2_with fail
                    go_region_held3 (fun w' => w'.cell? ⟨w.heap.size, 0, none⟩ = some (.int .i64 (n : Int)) ∧ w'.cell? ⟨w.heap.size, 1, none⟩ = some (.int .i64 S) ∧ w'.cell? ⟨w.heap.size, 2, none⟩ = some (.int .i64 G) ∧ w'.cell? ⟨w.heap.size, 3, none⟩ = some (.int .i64 W) ∧ w'.cell? ⟨w.heap.size, 4, none⟩ = some (.int .i64 D) ∧ w'.cell? ⟨w.heap.size, 5, none⟩ = some (.int .i64 L) ∧ w'.cell? ⟨w.heap.size, 6, none⟩ = some (.slice Ac nc cc) ∧ w'.cell? ⟨w.heap.size, 7, none⟩ = some (.slice As ns cs) ∧ w'.cell? ⟨gq, q * 3, none⟩ = some (.int .i64 st) ∧ w'.cell? ⟨gq, q * 3 + 1, none⟩ = some (.int .i64 sl) ∧ w'.cell? ⟨gq, q * 3 + 2, none⟩ = some (.slice A nv cv))
                      (first | with_reducible exact KT.out _ hdr | with_reducible exact KT.out _ halA | with_reducible exact KT.out _ hb3 | exact KT.out _ (hb3.trans ((Below.al _ _).mono hb3.size)) | exact KT.out _ (Below.off hb3 hb3.size (Nat.le_refl _) (grown3K _ _ _ _ _)))
                      (first
                      | (go_at_call 25; refine he1.mono ?_; rintro e w3 ⟨⟨A3, n3, c3⟩, rfl, hf3, hC⟩; dsimp only; have hb3 := hdr.trans (hC.mono hdr.size); have hs3 := Nat.le_trans hs1 hC.size; have hf4 := hf3.mono (Nat.le_trans hgq1 hs1); clear hC)
                      | (go_at_call 25; refine heA.mono ?_; rintro e w3 ⟨⟨A3, n3, c3⟩, rfl, hf3, hC⟩; dsimp only; have hb3 := halA.trans (hC.mono halA.size); have kx4 := kxA.on hC; have hs3 := Nat.le_trans (Nat.le_of_lt hsA) hC.size; clear hC; obtain ⟨u0, u1, u2, v0, v1, v2⟩ := kx4.three))
                    all_goals
                      first
                        | (have hG := grown3K w3 wr.heap.size (.int .i64 s2) (.int .i64 l2) (.slice A3 n3 c3); have kx := kx4.put3K (.int .i64 s2) (.int .i64 l2) (.slice A3 n3 c3); have hb := Below.off hb3 hb3.size (Nat.le_refl _) hG; have hf := (hf3.put hG hsA).mono (Nat.le_trans hgq1 (Nat.le_of_lt hsA)); have hgx : gq < wr.heap.size := hgq1; clear hG u0 u1 u2 v0 v1 v2 kx4; generalize ((w3.setCell ⟨wr.heap.size, 0, none⟩ (.int .i64 s2)).setCell ⟨wr.heap.size, 1, none⟩ (.int .i64 l2)).setCell ⟨wr.heap.size, 2, none⟩ (.slice A3 n3 c3) = U at *; generalize wr.heap.size = gx at hgx kx ⊢)
                        | (have kx := Blk.new w3 28 #[.int .i64 s2, .int .i64 l2, .slice A3 n3 c3]; have al := Below.al w3 (.cells #[.int .i64 s2, .int .i64 l2, .slice A3 n3 c3] 28); have hb := hb3.trans (al.mono hb3.size); have hf := hf4.on al; have hgx : gq < w3.heap.size := Nat.lt_of_lt_of_le hgq1 hs3; clear al; generalize w3.alloc (.cells #[.int .i64 s2, .int .i64 l2, .slice A3 n3 c3] 28) = U at *; generalize w3.heap.size = gx at hgx kx ⊢)
                      have km := KM.out.on hb; have hrow := own_on HRW.out hb; have hrd := HRD.out.on hb; have bc := BC.out.trans (hb.mono BC.out.size)
                      clear heA he1 hs1 hsA hdr halA kxA KT HRW HRD KM BC hgq1 hf3 hb3
                      (try clear hs3)
                      (try clear hf4)
                      obtain ⟨x0, x1, x2, -⟩ := kx.three
                      have fz0 := (own_frozenK hrow (q * 3)).1; have fz1 := (own_frozenK hrow (q * 3 + 1)).1; have fz2 := (own_frozenK hrow (q * 3 + 2)).1
                      have hG2 := grownK3 U gq (q * 3) (.int .i64 s2) (.int .i64 l2) (.slice A3 n3 c3)
                      have hrow5 := own_clockK hrow hjl ((⟨s2, l2, d2⟩ : Ck), (⟨A3, n3, c3⟩ : Slc))
                      have hrd5 := CksRd.set (j := q) (y := ((⟨s2, l2, d2⟩ : Ck), (⟨A3, n3, c3⟩ : Slc))) (hrd.put hG2 (Nat.lt_succ_self gq)) (hf.put hG2 (Nat.lt_succ_self gq))
                      have km5 := km.grown hG2 (some_ne (by omega)); have bc5 := Below.off bc bc.size (by omega) hG2
                      have hl3 := nexts_put HL.out hlq (⟨s2, l2, d2⟩ : Ck) (⟨A3, n3, c3⟩ : Slc) HCK2.out
                      dsimp only at hrow5
                      have HL3 := Lib.hid hl3; have HR5 := Lib.hid hrow5; have HD5 := Lib.hid hrd5; have KM5 := Lib.hid km5; have BC5 := Lib.hid bc5
                      clear hl3 hrow hrow5 hrd hrd5 km km5 bc bc5 hG2 hf kx hb HL HY
                      go_wp2
                      go_roundw
                      case rel => exact ⟨q + 1, _, by omega, by go_num, HL3.out, HR5.out, HD5.out, KM5.out, BC5.out⟩
                      case measure => simp [intOf]; omega
                · obtain rfl : n = q := by omega
                  have dq : decide ((n : Int) < (n : Int)) = false := by simp
                  have hl0 := hl.trans (nexts_at S o d n k)
                  have HL := Lib.hid hl0; have HR := Lib.hid hrow; have HRD := Lib.hid hrd; have KM := Lib.hid km; have BC := Lib.hid bc
                  clear hl hl0 hrow hrd km bc
                  go_wp2
                  go_roundw
                  case rel => exact ⟨k + 1, l, by omega, by go_num, HL.out, HR.out, HRD.out, KM.out, BC.out⟩
                  case measure => simp [intOf]; omega
        · obtain rfl : n = k := by omega
          have dk : decide ((n : Int) < (n : Int)) = false := by simp
          have hl0 : l.map Prod.fst = (List.range n).map (finI S o d n) := hl.trans (map_range_congr fun i _ => by unfold atK; rw [if_neg (by omega)])
          obtain ⟨⟨⟨st, sl, dv⟩, ⟨A, nv, cv⟩⟩, hy, hyf⟩ := range_at hl0 (show 0 < n by omega)
          have hst : st = (finI S o d n 0).st := congrArg Ck.st hyf
          obtain ⟨e0, -, -⟩ := near_rowK hrow hy
          dsimp only at e0
          rw [Nat.zero_mul] at e0
          have n01 : (0 : Int) < (n : Int) := by omega
          obtain ⟨p0, p1, p2, p3, p4, p5, p6, p7⟩ := near_eight8K km
          have HL := Lib.hid hl0; have HRW := Lib.hid hrow; have KM := Lib.hid km; have BC := Lib.hid bc; have HST := Lib.hid hst
          clear hl hl0 hrow hrd km bc hy hyf hst
          go_wp2_with fail
          refine wp_region_near (by kernel_rfl) (by kernel_rfl) ?_
          repeat (go_big_quiet_step (first | fail))
          refine wpQuiet_nil ?_
          rintro _ ⟨nw, rfl⟩
          clear p0 p1 p2 p3 p4 p5 p6 p7 e0
          have hrow := own_on HRW.out nw.h; have km := KM.out.on nw.h; have bc := BC.out.trans (nw.h.mono BC.out.size)
          clear HRW KM BC
          obtain ⟨u3, hu3⟩ : ∃ u, u = nw.W := ⟨_, rfl⟩
          rw [← hu3] at hrow km bc ⊢
          clear hu3 nw wr
          go_wp2_with fail
          go_loopw [23, 24, 180] (fun x z i wr => ∃ (j p r : Nat), (j ≤ n ∧ p < n ∧ r < n) ∧ i = .int .i64 j ∧ x = .int .i64 (finI S o d n p).st ∧ z = .int .i64 (finI S o d n r).st ∧ wr.ownsRow gq 28 3 (.slice (some ⟨gq, 0, none⟩) n n) n (cellsK l) ∧ Blk wr w.heap.size 25 #[.int .i64 (n : Int), .int .i64 S, .int .i64 G, .int .i64 W, .int .i64 D, .int .i64 L, .slice Ac nc cc, .slice As ns cs] ∧ Below w.heap.size w wr)
            (fun _ _ i _ => n - (intOf i).toNat)
          case atStart => exact ⟨0, 0, 0, by omega, rfl, by rw [HST.out], by rw [HST.out], hrow, km, bc⟩
          case round =>
            clear hrow km bc HST
            obtain ⟨j, p, r, ⟨hj, hp, hr⟩, rfl, rfl, rfl, hrow, km, bc⟩ := hrel
            by_cases hlj : j < n
            · have hlj2 : (j : Int) < (n : Int) := by omega
              obtain ⟨⟨⟨st, sl, dv⟩, ⟨A, nv, cv⟩⟩, hy, hyf⟩ := range_at HL.out hlj
              have hst : st = (finI S o d n j).st := congrArg Ck.st hyf
              obtain ⟨e0, e1, e2⟩ := own_cellK hrow hy
              dsimp only at e0 e1 e2
              have HST := Lib.hid hst
              generalize hx : (finI S o d n p).st = x at *
              generalize hz : (finI S o d n r).st = z at *
              have HX := Lib.hid hx; have HZ := Lib.hid hz
              clear hy hyf hst hx hz
              go_upto_region 43 with fail
              have kx := Blk.new wr 28 #[.int .i64 st, .int .i64 sl, .slice A nv cv]
              have al := Below.al wr (.cells #[.int .i64 st, .int .i64 sl, .slice A nv cv] 28)
              replace hrow := own_on hrow al; replace km := km.on al; replace bc := bc.trans (al.mono bc.size)
              clear al e0 e1 e2
              generalize wr.alloc (.cells #[.int .i64 st, .int .i64 sl, .slice A nv cv] 28) = u4 at *
              generalize wr.heap.size = gx at *
              obtain ⟨x0, -, -⟩ := near_three kx
              have HR := Lib.hid hrow; have KM := Lib.hid km; have BC := Lib.hid bc
              clear kx hrow km bc
              by_cases c1 : st < x
              · by_cases c2 : z < st
                · have d1 : decide (st < x) = true := by simpa using c1
                  have d2 : decide (z < st) = true := by simpa using c2
                  go_wp2_with fail
                  refine wp_region_near (by kernel_rfl) (by kernel_rfl) ?_
                  repeat (go_big_quiet_step (first | fail))
                  refine wpQuiet_nil ?_
                  rintro _ ⟨nw, rfl⟩
                  have hrow := own_on HR.out nw.h; have km := KM.out.on nw.h; have bc := BC.out.trans (nw.h.mono BC.out.size)
                  clear HR KM BC x0
                  go_wp2
                  go_roundw
                  case rel => exact ⟨j + 1, j, j, by omega, by go_num, by rw [← HST.out]; try simp [c1], by rw [← HST.out]; try simp [c2], hrow, km, bc⟩
                  case measure => simp [intOf]; omega
                · have d1 : decide (st < x) = true := by simpa using c1
                  have d2 : decide (z < st) = false := by simpa using c2
                  go_wp2_with fail
                  refine wp_region_near (by kernel_rfl) (by kernel_rfl) ?_
                  repeat (go_big_quiet_step (first | fail))
                  refine wpQuiet_nil ?_
                  rintro _ ⟨nw, rfl⟩
                  have hrow := own_on HR.out nw.h; have km := KM.out.on nw.h; have bc := BC.out.trans (nw.h.mono BC.out.size)
                  clear HR KM BC x0
                  go_wp2
                  go_roundw
                  case rel => exact ⟨j + 1, j, r, by omega, by go_num, by rw [← HST.out]; try simp [c1], by rw [HZ.out]; try simp [c2], hrow, km, bc⟩
                  case measure => simp [intOf]; omega
              · by_cases c2 : z < st
                · have d1 : decide (st < x) = false := by simpa using c1
                  have d2 : decide (z < st) = true := by simpa using c2
                  go_wp2_with fail
                  refine wp_region_near (by kernel_rfl) (by kernel_rfl) ?_
                  repeat (go_big_quiet_step (first | fail))
                  refine wpQuiet_nil ?_
                  rintro _ ⟨nw, rfl⟩
                  have hrow := own_on HR.out nw.h; have km := KM.out.on nw.h; have bc := BC.out.trans (nw.h.mono BC.out.size)
                  clear HR KM BC x0
                  go_wp2
                  go_roundw
                  case rel => exact ⟨j + 1, p, j, by omega, by go_num, by rw [HX.out]; try simp [c1], by rw [← HST.out]; try simp [c2], hrow, km, bc⟩
                  case measure => simp [intOf]; omega
                · have d1 : decide (st < x) = false := by simpa using c1
                  have d2 : decide (z < st) = false := by simpa using c2
                  go_wp2_with fail
                  refine wp_region_near (by kernel_rfl) (by kernel_rfl) ?_
                  repeat (go_big_quiet_step (first | fail))
                  refine wpQuiet_nil ?_
                  rintro _ ⟨nw, rfl⟩
                  have hrow := own_on HR.out nw.h; have km := KM.out.on nw.h; have bc := BC.out.trans (nw.h.mono BC.out.size)
                  clear HR KM BC x0
                  go_wp2
                  go_roundw
                  case rel => exact ⟨j + 1, p, r, by omega, by go_num, by rw [HX.out]; try simp [c1], by rw [HZ.out]; try simp [c2], hrow, km, bc⟩
                  case measure => simp [intOf]; omega
            · obtain rfl : n = j := by omega
              have dj : decide ((n : Int) < (n : Int)) = false := by simp
              have z1 := tg_near HT.out n r p rfl hr hp
              have z2 := tg_near HT.out n p r rfl hp hr
              dsimp only at z1 z2
              generalize (finI S o d n p).st = x at *
              generalize (finI S o d n r).st = z at *
              obtain ⟨nD, hnD⟩ : ∃ y, y = 6 * (n : Int) * D := ⟨_, rfl⟩
              have hb : 0 ≤ nD ∧ nD ≤ 3072 := by
                have h1 : (n : Int) * D ≤ 8 * 64 := Int.mul_le_mul (by omega) d64 d0 (by omega)
                have h2 : 0 ≤ (n : Int) * D := Int.mul_nonneg (by omega) d0
                have h3 : 6 * (n : Int) * D = 6 * ((n : Int) * D) := by rw [Int.mul_assoc]
                omega
              have e6 : IntKind.i64.wrap (6 * (n : Int)) = 6 * (n : Int) := IntWalk.i64_in _ (by omega)
              have e7 : IntKind.i64.wrap (6 * (n : Int) * D) = nD := by rw [← hnD]; exact IntWalk.i64_in _ (by omega)
              have e8 : IntKind.i64.wrap (nD + 2) = nD + 2 := IntWalk.i64_in _ (by omega)
              rw [← hnD] at z1 z2
              have e1 : IntKind.i64.wrap (z - x) = z - x := IntWalk.i64_in _ (by omega)
              have dd : decide (z - x ≤ nD + 2) = true := by simpa using z1
              obtain ⟨p0, p1, p2, p3, p4, p5, p6, p7⟩ := km.eight
              clear hnD hb z1 z2
              go_wp2
              go_ret
              exact ⟨rfl, bc⟩
end Go.Proofs.Ytlkmipcenlhacaa
