/-
  The statement of moments, each once, of package sched. Condition: a list of spans that can be read.
-/
import Derived.Test.YtjdhodobfkkoiaaSW
import Derived.ArgAppend
import Derived.Lib.LazyBuf
namespace Go.Proofs.Ytjdhodobfkkoiaa
open Go.RowKit

theorem cnt_more {l : List Sp} {k : Nat} {t : Int} (h : k < l.length) : cntS (l.take (k + 1)) t = cntS (l.take k) t + (if hasS (l[k]?.getD (0, 0)) t then 1 else 0) := by
  unfold cntS
  rw [take_more l h, List.countP_append, List.countP_singleton]
  by_cases hc : hasS (l[k]?.getD (0, 0)) t
  · simp [hc]
  · rw [if_neg hc, if_neg (by simpa using hc)]
theorem cnt_len (l : List Sp) (t : Int) : cntS l t ≤ l.length := List.countP_le_length

set_option maxRecDepth 100000 in
set_option maxHeartbeats 4000000 in
theorem count1_any (A : Option Addr) (n c tb : Nat) (l : List Sp) (t : Int) (w : World) (hn : n = l.length) (hm : n ≤ 60) (hA : Smps w.heap.size w A l) (ht : Blk w tb 2 #[.int .i64 t]) :
    Calls Try.prog 37 #[.slice A n c, .pointer (some ⟨tb, 0, none⟩)] w fun e w' => e = .returned (.int .i64 (cntS l t)) ∧ Below w.heap.size w w' := by
  have HN := Lib.hid hn; have HA := Lib.hid hA; have HT := Lib.hid ht; clear hn hA ht
  go_enter Try.func37, Try.ntmps37
  go_wp2
  go_loopw [4, 9] (fun nv i wr => ∃ k : Nat, k ≤ n ∧ i = .int .i64 k ∧ nv = .int .i64 (cntS (l.take k) t) ∧ Below w.heap.size w wr)
    (fun _ i _ => n - (intOf i).toNat)
  case atStart => exact ⟨0, by omega, rfl, rfl, Below.refl _ _⟩
  case round =>
    obtain ⟨k, hk, rfl, rfl, bc⟩ := hrel
    by_cases hlt : k < n
    · have hkl : k < l.length := by have := HN.out; omega
      obtain ⟨b, off, rfl, hbl, hc0, hc1⟩ := (HA.out.below bc).at_ hkl
      have hbs : b < wr.heap.size := Nat.lt_of_lt_of_le hbl bc.size
      have hmo := cnt_more (t := t) hkl
      have hcl := cnt_len (l.take k) t
      rw [List.length_take] at hcl
      have ktl : tb < wr.heap.size := Nat.lt_of_lt_of_le HT.out.lt bc.size
      obtain ⟨p0, -⟩ := (HT.out.on bc).one
      generalize l[k]?.getD (0, 0) = s at *
      obtain ⟨u, v⟩ := s
      dsimp only at hc0 hc1 hmo
      generalize cntS (l.take k) t = ct at *
      have hct : ct ≤ k := by omega
      have hwr : IntKind.i64.wrap ((ct : Int) + 1) = (ct : Int) + 1 := IntWalk.i64_in _ (by omega)
      clear hkl hcl
      by_cases h1 : u ≤ t
      · have d1 : decide (u ≤ t) = true := by simpa using h1
        by_cases h2 : t < v
        · have d2 : decide (t < v) = true := by simpa using h2
          rw [if_pos ⟨h1, h2⟩] at hmo
          have HM := Lib.hid hmo; clear hmo
          go_wp2
          go_roundw
          case rel => exact ⟨k + 1, by omega, by go_num, by rw [HM.out]; go_num, bc.alloc bc.size _⟩
          case measure => simp [intOf]; omega
        · have d2 : decide (t < v) = false := by simpa using h2
          rw [if_neg (fun h => h2 h.2), Nat.add_zero] at hmo
          have HM := Lib.hid hmo; clear hmo
          go_wp2
          go_roundw
          case rel => exact ⟨k + 1, by omega, by go_num, by rw [HM.out]; first | rfl | done, bc.alloc bc.size _⟩
          case measure => simp [intOf]; omega
      · have d1 : decide (u ≤ t) = false := by simpa using h1
        rw [if_neg (fun h => h1 h.1), Nat.add_zero] at hmo
        have HM := Lib.hid hmo; clear hmo
        go_wp2
        go_roundw
        case rel => exact ⟨k + 1, by omega, by go_num, by rw [HM.out]; first | rfl | done, bc.alloc bc.size _⟩
        case measure => simp [intOf]; omega
    · obtain rfl : k = n := by omega
      have htk : l.take k = l := List.take_of_length_le (by have := HN.out; omega)
      rw [htk]
      go_wp2
      go_ret
      exact ⟨rfl, bc⟩

/-- A list from a place on, then what lies ahead of it. -/
def rotS (l : List Sp) (k : Nat) : List Sp := l.drop k ++ l.take k
theorem rot_mem (l : List Sp) (k : Nat) (s : Sp) : s ∈ rotS l k ↔ s ∈ l := by
  unfold rotS
  rw [List.mem_append, or_comm, ← List.mem_append, List.take_append_drop]
theorem rot_length (l : List Sp) (k : Nat) : (rotS l k).length = l.length := by unfold rotS; simp; omega
theorem cellsS_parts (l : List Sp) (k : Nat) : cellsS l = cellsS (l.take k) ++ cellsS (l.drop k) := by
  rw [← cellsS_append, List.take_append_drop]
theorem cellsS_take (l : List Sp) (k : Nat) (hk : k ≤ l.length) : cellsS (l.take k) = (cellsS l).take (k * 2) := by
  have e : (cellsS (l.take k)).length = k * 2 := by rw [cellsS_length, List.length_take]; omega
  rw [cellsS_parts l k, List.take_append_of_le_length (by omega)]
  exact (List.take_of_length_le (by omega)).symm
theorem cellsS_drop (l : List Sp) (k : Nat) (hk : k ≤ l.length) : cellsS (l.drop k) = (cellsS l).drop (k * 2) := by
  have e : (cellsS (l.take k)).length = k * 2 := by rw [cellsS_length, List.length_take]; omega
  have h0 : (cellsS (l.take k)).drop (k * 2) = [] := List.drop_of_length_le (by omega)
  rw [cellsS_parts l k, List.drop_append_of_le_length (by omega), h0, List.nil_append]
/-- A row of cells is read as spans. -/
theorem smps_of_cells {w : World} {g off : Nat} {l : List Sp} (hg : g < w.heap.size) (h : ∀ j u, (cellsS l)[j]? = some u → w.cell? ⟨g, off + j, none⟩ = some u) : Smps w.heap.size w (some ⟨g, off, none⟩) l := fun _ =>
  ⟨g, off, rfl, hg, fun j hj => by
    obtain ⟨h0, h1⟩ := cellsS_get l j hj
    exact ⟨h _ _ h0, by have := h _ _ h1; rwa [← Nat.add_assoc] at this⟩⟩
theorem own_row {w : World} {base g n cap : Nat} {xs : List Value} (h : w.ownsRow base 23 2 (.slice (some ⟨g, 0, none⟩) n cap) n xs) :
    n ≤ cap ∧ cap ≤ maxLen ∧ base ≤ g ∧ g < w.heap.size ∧ (∀ j, j < cap * 2 → (w.cell? ⟨g, j, none⟩).isSome = true ∧ w.frozen? ⟨g, j, none⟩ = false) ∧ ∀ j u, xs[j]? = some u → w.cell? ⟨g, j, none⟩ = some u := by
  have hc := fun j u hj => h.cells (g := g) rfl j u hj
  rcases h.2 with ⟨h1, _⟩ | ⟨g', cap', cur, h1, hb, hh, hcap, hmx, hsz, htk⟩
  · cases h1
  · injection h1 with h1 _ h3
    injection h1 with h1
    injection h1 with h1
    subst h1; subst h3
    have hblk : Blk w g 23 cur := hh
    refine ⟨hcap, hmx, hb, hblk.lt, fun j hj => ⟨?_, hblk.frozen _⟩, fun j u hj => ?_⟩
    · rw [hblk.cell, Array.getElem?_eq_getElem (by omega)]; rfl
    · have := hc j u hj
      rwa [addr_add, Nat.zero_add] at this
theorem rot_room {w : World} {base g n cap k : Nat} {l : List Sp} (h : w.ownsRow base 23 2 (.slice (some ⟨g, 0, none⟩) n cap) n (cellsS l)) (hn : n = l.length) (hk : k < n) (hr : n - k + k ≤ cap - k) :
    Smps (w.setCells g (k * 2 + (n - k) * 2) (cellsS (l.take k))).heap.size (w.setCells g (k * 2 + (n - k) * 2) (cellsS (l.take k))) (some ⟨g, k * 2, none⟩) (rotS l k) ∧ Below base w (w.setCells g (k * 2 + (n - k) * 2) (cellsS (l.take k))) := by
  obtain ⟨h1, h2, h3, h4, h5, h6⟩ := own_row h
  have hb := below_setCells (B := base) (b := g) (a := w) h3 (cellsS (l.take k)) (k * 2 + (n - k) * 2) w (Below.refl _ _)
  have hlt : (cellsS (l.take k)).length = k * 2 := by rw [cellsS_length, List.length_take]; omega
  have hld : (cellsS (l.drop k)).length = (n - k) * 2 := by rw [cellsS_length, List.length_drop]; omega
  refine ⟨smps_of_cells (Nat.lt_of_lt_of_le h4 hb.size) fun j u hj => ?_, hb⟩
  unfold rotS at hj
  rw [cellsS_append] at hj
  by_cases hjd : j < (n - k) * 2
  · rw [List.getElem?_append_left (by omega), cellsS_drop _ _ (by omega), List.getElem?_drop] at hj
    rw [World.cell?_setCells_out g _ _ _ _ (fun _ _ => .inl (by dsimp only; omega))]
    exact h6 _ _ hj
  · rw [List.getElem?_append_right (by omega), hld] at hj
    have hjl : j - (n - k) * 2 < (cellsS (l.take k)).length := by
      rcases Nat.lt_or_ge (j - (n - k) * 2) (cellsS (l.take k)).length with h | h
      · exact h
      · rw [List.getElem?_eq_none h] at hj; cases hj
    have := World.cell?_setCells_in g (cellsS (l.take k)) (k * 2 + (n - k) * 2) w (fun i hi => (h5 _ (by omega)).1) (j - (n - k) * 2) hjl
    rw [show k * 2 + (n - k) * 2 + (j - (n - k) * 2) = k * 2 + j by omega] at this
    rw [this, ← hj, List.getElem?_eq_getElem hjl]
set_option maxRecDepth 100000 in
set_option maxHeartbeats 4000000 in
theorem once_law (A : Option Addr) (n c : Nat) (l : List Sp) (t : Int) (tu : Nat) (w : World) (hn : n = l.length) (hm : n ≤ maxLen) (hcap : n ≤ c) (hcn : A = none → n = 0 ∧ c = 0) (hA : Smps w.heap.size w A l) (htu : tu < 256) :
    Calls Try.prog 6 #[.slice A n c, .int .i64 t, .int .u8 tu] w fun e w' => e = .returned (.bool true) ∧ Below w.heap.size w w' := by
  obtain ⟨m, hmin⟩ : ∃ m, m = min n 60 := ⟨_, rfl⟩
  obtain ⟨lf, hlf⟩ : ∃ lf, lf = l.take m := ⟨_, rfl⟩
  have hlm : m = lf.length := by rw [hlf, List.length_take]; omega
  have hSf : Smps w.heap.size w A lf := by rw [hlf]; exact hA.take m
  have h0 := fun W => sfew_any A n c m W hcap hm hmin hcn
  have hcm : A = none → m = 0 ∧ c = 0 := fun h => by have := hcn h; omega
  have hm60 : m ≤ 60 := by omega
  have h1 := fun (W : World) (h : Below w.heap.size w W) => sclone_any A m c lf W hlm (by omega) (hSf.on h) hcm
  have h2 := fun (W : World) (h : Below w.heap.size w W) => norm_any A m c lf W hlm hm60 (hSf.on h)
  have h3 := fun (W : World) (h : Below w.heap.size w W) (tb : Nat) (ht : Blk W tb 2 #[.int .i64 t]) => count1_any A m c tb lf t W hlm hm60 (hSf.on h) ht
  have hrl := normR_length lf
  have H0 := Lib.hid h0; have H1 := Lib.hid h1; have H3 := Lib.hid h3; have HLM := Lib.hid hlm
  clear h0 h1 h3 hlf hSf hA hn hm hcap hcn hmin hcm
  obtain ⟨kt, bc⟩ := bx1 w #[.int .i64 t] 2
  by_cases hall : ∀ s ∈ lf, okS s
  case neg =>
    have hr : normR lf = (60, []) := by
      unfold normR
      rw [if_neg]
      rw [List.all_eq_true]
      exact fun h => hall fun s hs => of_decide_eq_true (h s hs)
    rw [hr] at h2
    unfold ResN at h2
    dsimp only at h2
    have H2 := Lib.hid h2; clear h2 hr hall hrl hlm
    go_enter Try.func6, Try.ntmps6
    go_wp2_with fail
    refine (H0.out _).mono ?_
    rintro e w0 ⟨rfl, rfl⟩
    dsimp only
    go_wp2_with fail
    refine (H2.out _ bc).mono ?_
    rintro e w1 ⟨v7, rfl, hrow, hC⟩
    dsimp only
    replace bc := below_then bc hC; clear hC
    go_wp2_with fail
    refine (sbegun_any _).mono ?_
    rintro e w2 ⟨rfl, hC⟩
    dsimp only
    replace bc := below_then bc hC; clear hC
    go_wp2_with fail
    refine (sbegun_any _).mono ?_
    rintro e w3 ⟨rfl, hC⟩
    dsimp only
    replace bc := below_then bc hC; clear hC
    go_wp2
    go_ret
    exact ⟨rfl, bc⟩
  have hr : normR lf = (0, normS lf) := normR_yes hall
  have hokx := norm_ok hall
  have hnn := norm_of_norm lf
  have hrot : ∀ k, normR (rotS lf k) = (0, normS lf) := fun k => by
    rw [normR_yes (fun s hs => hall s ((rot_mem lf k s).1 hs)), norm_perm (rot_mem lf k)]
  obtain ⟨hc1, hc2⟩ := cntS_norm lf t
  have hcl := cnt_len lf t
  rw [hr] at h2 hrl
  have hxx : normR (normS lf) = (0, normS lf) := by rw [normR_yes hokx, hnn]
  unfold ResN at h2
  dsimp only at h2 hrl
  generalize normS lf = xl at *
  have hxl : xl.length ≤ 60 := by omega
  have h4 := fun (W : World) (B : Option Addr) (c' : Nat) (hB : Smps W.heap.size W B xl) => norm_any B xl.length c' xl W rfl hxl hB
  have h5 := fun (W : World) (B C : Option Addr) (c' c'' : Nat) (hB : Smps W.heap.size W B xl) (hC : Smps W.heap.size W C xl) => sequal_yes B C xl.length c' c'' xl W rfl (by unfold maxLen; omega) hB hC
  have h6 := fun (W : World) (B : Option Addr) (c' tb : Nat) (hB : Smps W.heap.size W B xl) (ht : Blk W tb 2 #[.int .i64 t]) => count1_any B xl.length c' tb xl t W rfl hxl hB ht
  have h7 := fun (W : World) (B : Option Addr) (c' : Nat) (rl : List Sp) (hrl : m = rl.length) (hrn : normR rl = (0, xl)) (hB : Smps W.heap.size W B rl) => (norm_any B m c' rl W hrl hm60 hB)
  rw [hxx] at h4
  unfold ResN at h4 h7
  dsimp only at h4
  generalize cntS xl t = cx at *
  generalize cntS lf t = cl at *
  have H2 := Lib.hid h2; have H4 := Lib.hid h4; have H5 := Lib.hid h5; have H6 := Lib.hid h6; have H7 := Lib.hid h7; have HR := Lib.hid hrot; have HNR := Lib.hid hr
  clear h2 h4 h5 h6 h7 hall hr hokx hnn hrot hrl hxx hxl hlm
  go_enter Try.func6, Try.ntmps6
  go_wp2_with fail
  refine (H0.out _).mono ?_
  rintro e w0 ⟨rfl, rfl⟩
  dsimp only
  clear kt
  have kt := Blk.new w 2 #[.int .i64 t]
  go_wp2_with fail
  refine (H2.out _ bc).mono ?_
  rintro e w1 ⟨v7, rfl, hrow, hC⟩
  dsimp only
  replace kt := kt.on hC; replace bc := below_then bc hC; clear hC
  obtain ⟨XA, xc, rfl, -, -, hX⟩ := spans_of_own hrow
  clear hrow
  go_wp2_with fail
  refine (sbegun_any _).mono ?_
  rintro e w2 ⟨rfl, hC⟩
  dsimp only
  replace kt := kt.on hC; replace hX := hX.on hC; replace bc := below_then bc hC; clear hC
  have hktl := kt.lt
  have HKT := Lib.hid hktl; clear hktl
  go_wp2_with fail
  refine (H1.out _ bc).mono ?_
  rintro e w3 ⟨v10, rfl, hrow, hC⟩
  dsimp only
  replace kt := kt.on hC
  have hBq := hC
  replace bc := below_then bc hC; clear hC
  have hX2 := hX
  replace hX := hX.on hBq
  obtain ⟨bb, hbb⟩ : ∃ bb, bb = decide (cx = 1) := ⟨_, rfl⟩
  have f1 : decide ((cx : Int) ≤ 1) = true := by simp; omega
  have f2 : decide (cx ≤ 1) = true := by simpa using hc1
  have f3 : ((cx : Int) == 1) = bb := by rw [hbb, Bool.eq_iff_iff]; simp; omega
  have f4 : (cx == 1) = bb := by rw [hbb, Bool.eq_iff_iff]; simp
  have f5 : decide ((0 : Int) < (cl : Int)) = bb := by rw [hbb, decide_eq_decide]; omega
  have f6 : decide (0 < cl) = bb := by rw [hbb, decide_eq_decide]; exact hc2.symm
  have HC := Lib.hid hc1; have HC2 := Lib.hid hc2; have HBB := Lib.hid hbb; clear hc1 hc2 hbb
  have FF := Lib.hid (And.intro f1 (And.intro f2 (And.intro f3 (And.intro f4 (And.intro f5 f6))))); clear f1 f2 f3 f4 f5 f6
  by_cases h0 : m = 0
  · subst h0
    obtain ⟨RA, rc, rfl⟩ : ∃ RA rc, v10 = .slice RA 0 rc := by
      rcases hrow.2 with ⟨h, _⟩ | ⟨g, cap, cur, h, _⟩
      · exact ⟨none, 0, h⟩
      · exact ⟨_, cap, h⟩
    have hlf0 : lf = [] := List.eq_nil_of_length_eq_zero HLM.out.symm
    have hR : Smps w3.heap.size w3 RA lf := fun h => absurd hlf0 h
    clear hrow hBq hX2 hlf0
    have h7b := fun (W : World) (h : Smps W.heap.size W RA (lf)) => H7.out W RA rc (lf) HLM.out HNR.out h
    rw [HNR.out] at h7b
    dsimp only at h7b
    have H7B := Lib.hid h7b; clear h7b
    go_wp2_with fail
    refine (H4.out _ _ _ hX).mono ?_
    rintro e w5 ⟨v12, rfl, hrow, hC⟩
    dsimp only
    replace kt := kt.on hC; replace hX := hX.on hC; replace hR := hR.on hC; replace bc := below_then bc hC; clear hC
    obtain ⟨YA, yc, rfl, -, -, hY⟩ := spans_of_own hrow
    clear hrow
    go_wp2_with fail
    refine (H7B.out _ hR).mono ?_
    rintro e w6 ⟨v14, rfl, hrow, hC⟩
    dsimp only
    replace kt := kt.on hC; replace hX := hX.on hC; replace hY := hY.on hC; replace bc := below_then bc hC; clear hC
    obtain ⟨ZA, zc, rfl, -, -, hZ⟩ := spans_of_own hrow
    clear hrow
    go_wp2_with fail
    refine (H5.out _ _ _ _ _ hX hY).mono ?_
    rintro e w7 ⟨rfl, hC⟩
    dsimp only
    replace kt := kt.on hC; replace hX := hX.on hC; replace hZ := hZ.on hC; replace bc := below_then bc hC; clear hC
    go_wp2_with fail
    refine (H5.out _ _ _ _ _ hX hZ).mono ?_
    rintro e w8 ⟨rfl, hC⟩
    dsimp only
    replace kt := kt.on hC; replace hX := hX.on hC; replace bc := below_then bc hC; clear hC
    go_wp2_with fail
    refine (H6.out _ _ _ _ hX kt).mono ?_
    rintro e w9 ⟨rfl, hC⟩
    dsimp only
    replace kt := kt.on hC; replace hX := hX.on hC; replace bc := below_then bc hC; clear hC
    obtain ⟨f1, f2, f3, f4, f5, f6⟩ := FF.out
    go_wp2_with fail
    refine (H6.out _ _ _ _ hX kt).mono ?_
    rintro e w10 ⟨rfl, hC⟩
    dsimp only
    replace kt := kt.on hC; replace bc := below_then bc hC; clear hC
    go_wp2_with fail
    refine (H3.out _ bc _ kt).mono ?_
    rintro e w11 ⟨rfl, hC⟩
    dsimp only
    replace bc := below_then bc hC; clear hC
    go_wp2
    go_ret
    exact ⟨rfl, bc⟩
  · obtain ⟨g, cap, rfl⟩ : ∃ g cap, v10 = .slice (some ⟨g, 0, none⟩) m cap := by
      rcases hrow.2 with ⟨_, h⟩ | ⟨g, cap, cur, h, _⟩
      · exact absurd h h0
      · exact ⟨g, cap, h⟩
    obtain ⟨k, hk⟩ : ∃ k, k = tu % m := ⟨_, rfl⟩
    have hkm : k < m := by rw [hk]; exact Nat.mod_lt _ (by omega)
    have e1 : (tu : Int).tmod (m : Int) = (k : Int) := by rw [hk, Int.tmod_eq_emod_of_nonneg (by omega)]; omega
    have e2 : IntKind.i64.wrap (tu : Int) = (tu : Int) := IntWalk.i64_in _ (by omega)
    have e3 : IntKind.i64.wrap (k : Int) = (k : Int) := IntWalk.i64_in _ (by omega)
    have hm0 : (m : Int) ≠ 0 := by omega
    have d1 : decide ((0 : Int) < (m : Int)) = true := by simp; omega
    have d2 : decide (0 < m) = true := by simp; omega
    obtain ⟨o1, o2, o3, o4, o5, o6⟩ := own_row hrow
    have HK := Lib.hid hk; have HROW := Lib.hid hrow; have O5 := Lib.hid o5; have O6 := Lib.hid o6; clear hk hrow o5 o6
    have hkc : (k : Int) ≤ (m : Int) := by omega
    have hkn : k < cap := by omega
    have hck : ¬ cap = k := by omega
    have hkc2 : k ≤ cap := by omega
    have hkc3 : (k : Int) ≤ (cap : Int) := by omega
    have hkc4 : ¬ cap = 0 := by omega
    obtain ⟨i0, hi, hz0, hz1, hz2⟩ := info_parts Try.infoSp
    go_wp2
    refine wp_region_still_tail 6 (by kernel_rfl) (by kernel_rfl) ?_
    simp only [List.take_succ_cons, List.take_zero, List.drop_succ_cons, List.drop_zero]
    change wpStill _ _ (w3.drew) (fun a' => wpList _ _ _ _ a' (w3.drew)) _ _
    repeat still_step
    refine wpStill_nil ?_
    have hln : (cellsS (lf.drop k)).length = (m - k) * 2 := by rw [cellsS_length, List.length_drop, ← HLM.out]
    have hlt : (cellsS (lf.take k)).length = k * 2 := by rw [cellsS_length, List.length_take, ← HLM.out]; omega
    have q1 : ∀ j u, (cellsS (lf.drop k))[j]? = some u → w3.drew.cell? ⟨g, k * 2 + j, none⟩ = some u := fun j u h => by
      rw [cellsS_drop _ _ (by rw [← HLM.out]; omega), List.getElem?_drop] at h
      exact O6.out _ _ h
    have q2 : ∀ j u, (cellsS (lf.take k))[j]? = some u → w3.drew.cell? ((⟨g, 0, none⟩ : Addr).add j) = some u := fun j u h => by
      rw [cellsS_take _ _ (by rw [← HLM.out]; omega)] at h
      have hj : j < k * 2 := by
        rcases Nat.lt_or_ge j (k * 2) with h2 | h2
        · exact h2
        · rw [List.getElem?_take_eq_none h2] at h; cases h
      rw [List.getElem?_take_of_lt hj] at h
      rw [addr_add, Nat.zero_add]
      exact O6.out _ _ h
    have q3 : m - k + k ≤ cap - k → ∀ j, j < (cellsS (lf.take k)).length → (w3.drew.cell? ⟨g, k * 2 + (m - k) * 2 + j, none⟩).isSome = true ∧ w3.drew.frozen? ⟨g, k * 2 + (m - k) * 2 + j, none⟩ = false := fun h j hj => O5.out _ (by omega)
    have Q1 := Lib.hid q1; have Q2 := Lib.hid q2; have Q3 := Lib.hid q3; have HLN := Lib.hid hln; have HLT := Lib.hid hlt; clear q1 q2 q3 hln hlt
    have hb3 := bc.size
    refine wpList_append_arg _ rfl _ _ 31 rfl 23 i0 (.agg #[.int .i64 0, .int .i64 0]) 2 16 Try.underlying31 hi hz0 hz1 hz2 rfl (by decide) g (k * 2) (m - k) (cap - k) (cellsS (lf.drop k)) rfl HLN.out Q1.out ⟨g, 0, none⟩ k cap (cellsS (lf.take k)) rfl HLT.out Q2.out (cellsS_one _) Q3.out (by unfold maxLen; omega) (by omega) (fun hroom => ?room) (fun hfull v' w4 hown hgrow => ?grow)
    
    case room =>
      have hrr := rot_room (w := w3.drew) (k := k) HROW.out HLM.out hkm hroom
      obtain ⟨hR, hb0⟩ := hrr
      rw [show m - k + k = m by omega]
      generalize w3.drew.setCells g (k * 2 + (m - k) * 2) (cellsS (lf.take k)) = W4 at *
      have hb : Below w2.heap.size w3 W4 := (fun h : Below w2.heap.size w3.drew W4 => (Below.drew (Below.refl _ w3)).trans h) hb0
      clear hb0
      obtain ⟨RA, hRA⟩ : ∃ RA, RA = some (⟨g, k * 2, none⟩ : Addr) := ⟨_, rfl⟩
      obtain ⟨rc, hrc⟩ : ∃ rc, rc = cap - k := ⟨_, rfl⟩
      rw [← hRA, ← hrc]
      rw [← hRA] at hR
      clear hRA hrc hroom
      have hB24 : Below w2.heap.size w2 W4 := hBq.trans hb
      have hX4 : Smps W4.heap.size W4 XA xl := (hX2.below hB24).mono hB24.size
      have kt4 : Blk W4 w.heap.size 2 #[.int .i64 t] := kt.below hb HKT.out
      have bc4 : Below w.heap.size w W4 := bc.trans (hb.mono (Nat.le_of_lt HKT.out))
      clear hX hX2 kt bc hBq hB24
      have hX := hX4; have kt := kt4; have bc := bc4; clear hX4 kt4 bc4
      clear HROW O5 O6 Q1 Q2 Q3 HLN HLT
      have h7b := fun (W : World) (h : Smps W.heap.size W RA (rotS lf k)) => H7.out W RA rc (rotS lf k) (by rw [rot_length]; exact HLM.out) (HR.out k) h
      rw [(HR.out k)] at h7b
      dsimp only at h7b
      have H7B := Lib.hid h7b; clear h7b
      go_wp2_with fail
      refine (H4.out _ _ _ hX).mono ?_
      rintro e w5 ⟨v12, rfl, hrow, hC⟩
      dsimp only
      replace kt := kt.on hC; replace hX := hX.on hC; replace hR := hR.on hC; replace bc := below_then bc hC; clear hC
      obtain ⟨YA, yc, rfl, -, -, hY⟩ := spans_of_own hrow
      clear hrow
      go_wp2_with fail
      refine (H7B.out _ hR).mono ?_
      rintro e w6 ⟨v14, rfl, hrow, hC⟩
      dsimp only
      replace kt := kt.on hC; replace hX := hX.on hC; replace hY := hY.on hC; replace bc := below_then bc hC; clear hC
      obtain ⟨ZA, zc, rfl, -, -, hZ⟩ := spans_of_own hrow
      clear hrow
      go_wp2_with fail
      refine (H5.out _ _ _ _ _ hX hY).mono ?_
      rintro e w7 ⟨rfl, hC⟩
      dsimp only
      replace kt := kt.on hC; replace hX := hX.on hC; replace hZ := hZ.on hC; replace bc := below_then bc hC; clear hC
      go_wp2_with fail
      refine (H5.out _ _ _ _ _ hX hZ).mono ?_
      rintro e w8 ⟨rfl, hC⟩
      dsimp only
      replace kt := kt.on hC; replace hX := hX.on hC; replace bc := below_then bc hC; clear hC
      go_wp2_with fail
      refine (H6.out _ _ _ _ hX kt).mono ?_
      rintro e w9 ⟨rfl, hC⟩
      dsimp only
      replace kt := kt.on hC; replace hX := hX.on hC; replace bc := below_then bc hC; clear hC
      obtain ⟨f1, f2, f3, f4, f5, f6⟩ := FF.out
      go_wp2_with fail
      refine (H6.out _ _ _ _ hX kt).mono ?_
      rintro e w10 ⟨rfl, hC⟩
      dsimp only
      replace kt := kt.on hC; replace bc := below_then bc hC; clear hC
      go_wp2_with fail
      refine (H3.out _ bc _ kt).mono ?_
      rintro e w11 ⟨rfl, hC⟩
      dsimp only
      replace bc := below_then bc hC; clear hC
      go_wp2
      go_ret
      exact ⟨rfl, bc⟩
    case grow =>
      rw [show m - k + k = m by omega] at hown
      rw [← cellsS_append] at hown
      obtain ⟨RA, rc, rfl, -, -, hR⟩ := spans_of_own hown
      have hrl0 : (lf.drop k ++ lf.take k).length = m := by rw [HLM.out]; exact rot_length lf k
      rw [hrl0]
      have hb : Below w2.heap.size w3 w4 := (Below.drew (Below.refl _ w3)).grown hgrow (by show w2.heap.size ≤ w3.heap.size; exact hBq.size) (fun k e => by cases e)
      clear hown hgrow hrl0 hfull
      generalize w4 = W4 at *
      have hB24 : Below w2.heap.size w2 W4 := hBq.trans hb
      have hX4 : Smps W4.heap.size W4 XA xl := (hX2.below hB24).mono hB24.size
      have kt4 : Blk W4 w.heap.size 2 #[.int .i64 t] := kt.below hb HKT.out
      have bc4 : Below w.heap.size w W4 := bc.trans (hb.mono (Nat.le_of_lt HKT.out))
      clear hX hX2 kt bc hBq hB24
      have hX := hX4; have kt := kt4; have bc := bc4; clear hX4 kt4 bc4
      clear HROW O5 O6 Q1 Q2 Q3 HLN HLT
      have h7b := fun (W : World) (h : Smps W.heap.size W RA (rotS lf k)) => H7.out W RA rc (rotS lf k) (by rw [rot_length]; exact HLM.out) (HR.out k) h
      rw [(HR.out k)] at h7b
      dsimp only at h7b
      have H7B := Lib.hid h7b; clear h7b
      go_wp2_with fail
      refine (H4.out _ _ _ hX).mono ?_
      rintro e w5 ⟨v12, rfl, hrow, hC⟩
      dsimp only
      replace kt := kt.on hC; replace hX := hX.on hC; replace hR := hR.on hC; replace bc := below_then bc hC; clear hC
      obtain ⟨YA, yc, rfl, -, -, hY⟩ := spans_of_own hrow
      clear hrow
      go_wp2_with fail
      refine (H7B.out _ hR).mono ?_
      rintro e w6 ⟨v14, rfl, hrow, hC⟩
      dsimp only
      replace kt := kt.on hC; replace hX := hX.on hC; replace hY := hY.on hC; replace bc := below_then bc hC; clear hC
      obtain ⟨ZA, zc, rfl, -, -, hZ⟩ := spans_of_own hrow
      clear hrow
      go_wp2_with fail
      refine (H5.out _ _ _ _ _ hX hY).mono ?_
      rintro e w7 ⟨rfl, hC⟩
      dsimp only
      replace kt := kt.on hC; replace hX := hX.on hC; replace hZ := hZ.on hC; replace bc := below_then bc hC; clear hC
      go_wp2_with fail
      refine (H5.out _ _ _ _ _ hX hZ).mono ?_
      rintro e w8 ⟨rfl, hC⟩
      dsimp only
      replace kt := kt.on hC; replace hX := hX.on hC; replace bc := below_then bc hC; clear hC
      go_wp2_with fail
      refine (H6.out _ _ _ _ hX kt).mono ?_
      rintro e w9 ⟨rfl, hC⟩
      dsimp only
      replace kt := kt.on hC; replace hX := hX.on hC; replace bc := below_then bc hC; clear hC
      obtain ⟨f1, f2, f3, f4, f5, f6⟩ := FF.out
      go_wp2_with fail
      refine (H6.out _ _ _ _ hX kt).mono ?_
      rintro e w10 ⟨rfl, hC⟩
      dsimp only
      replace kt := kt.on hC; replace bc := below_then bc hC; clear hC
      go_wp2_with fail
      refine (H3.out _ bc _ kt).mono ?_
      rintro e w11 ⟨rfl, hC⟩
      dsimp only
      replace bc := below_then bc hC; clear hC
      go_wp2
      go_ret
      exact ⟨rfl, bc⟩
end Go.Proofs.Ytjdhodobfkkoiaa
