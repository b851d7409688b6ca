/- Apply, where it answers bytes. -/
import Derived.Test.YtjbepojopfbajaaVApply
namespace Go.Proofs.Ytjbepojopfbajaa
open Go.ChangeShapes Go.WideShapes Go.ChangeAt Go.RowKit
set_option linter.unusedVariables false
set_option linter.unusedSimpArgs false

theorem sz5 : (Try.prog.info? 5).map (·.size) = some 1 := by kernel_rfl
theorem part_one (v : Int) (m k : Nat) : ∀ x ∈ part v m k, x.oneCell' = true := by
  intro x hx
  unfold part at hx
  obtain ⟨j, _, rfl⟩ := List.mem_map.1 hx
  rfl
set_option maxHeartbeats 400000 in
set_option maxRecDepth 20000 in
theorem apply_ok_always (ao : Option Addr) (n cap : Nat) (bs : Nat → Int) (b : Nat) (t : Int) (p : Pl) (w : World) (hrow : IsRow w ao n cap bs) (hn : n ≤ 1048576) (h0 : valE t p = 0) (hv : (kdOf t).v ≠ 0) (hf : (kdOf t).f = 58) (hs : (kdOf t).sz = 8) (hb : b + 8 ≤ n) (hfit : true = true) :
    Calls Try.prog 23 #[.slice ao n cap, .int .i64 b, .int .i64 t, p.val] w fun e w' => AplEnd bs n (valM t p) b 8 w e w' := by
  have HV : Hid (∀ W, _) := ⟨fun W => value_any t p W⟩
  rw [h0] at HV
  have HK : Hid (∀ W, _) := ⟨fun W => kindOf_any t W⟩
  have HF : Hid (∀ W, Calls Try.prog 58 #[.int .i64 (valM t p)] W fun e w' => e = .returned (.bool true) ∧ w' = W) := ⟨fun W => by
    have := always_any (valM t p) W
    first | exact this | (rw [hfit] at this; exact this)⟩
  have HP : Hid (∀ W, Calls Try.prog 33 #[.int .i64 (valM t p), .int .i64 8] W fun e w' => e = .returned (.tuple #[.slice (some ⟨W.heap.size, 0, none⟩) 8 8, .int .i64 0]) ∧ w'.ownsRow W.heap.size 5 1 (.slice (some ⟨W.heap.size, 0, none⟩) 8 8) 8 (part (valM t p) 8 8) ∧ Below W.heap.size W w') := ⟨fun W => by
    refine put_8 (valM t p) W ?_
    first | exact .inl (fits64 (val_in h0)) | exact .inl hfit | exact .inr hfit⟩
  have HC : Hid (∀ W, Below w.heap.size w W → Calls Try.prog 34 #[.slice ao n cap] W fun e w' => ∃ v, e = .returned v ∧ Own w' W.heap.size v (lst bs n) ∧ Below W.heap.size W w') := ⟨fun W h => clone_any ao n cap bs W (hrow.row.below h (Nat.le_refl _)) hrow.nil (fun a e => by
    rcases hrow.row with h | ⟨b, off, e2, _⟩
    · omega
    · rw [e2] at e; cases e; rfl) (by omega)⟩
  have HE : Hid (∀ w' g c, Own w' w.heap.size (.slice (some ⟨g, 0, none⟩) n c) (lst (putB bs (valM t p) b 8) n) → Below w.heap.size w w' → AplEnd bs n (valM t p) b 8 w (.returned (.tuple #[.slice (some ⟨g, 0, none⟩) n c, .int .i64 0])) w') := ⟨fun w' g c h1 h2 => ⟨g, c, rfl, h1, h2⟩⟩
  clear hrow hfit
  generalize valM t p = v at *
  generalize kdOf t = x at *
  obtain ⟨s, a, pp, g, tt⟩ := p
  have HB0 : Hid (Below w.heap.size w (w.alloc (.cells #[.int .i64 s, .int .i64 a, .int .i64 pp, .int .i64 g, .int .i64 tt] 23))) := ⟨vb_alloc (Below.refl _ _) _⟩
  dsimp only [Pl.val] at *
  obtain ⟨nm, sz, v', f⟩ := x
  dsimp only at hv hf hs
  subst hf hs
  rw [kd_valN nm _ v' _ hv (by decide)] at HK
  clear h0
  go_enter Try.func23, Try.ntmps23
  go_upto_region 7 with (first
    | (go_at_call 10; refine (HV.out _).mono ?_; rintro e w1 ⟨rfl, hb1⟩; have HB1 : Hid _ := ⟨hb1⟩; clear hb1)
    | (go_at_call 32; refine (HK.out _).mono ?_; rintro e w2 ⟨rfl, hb2⟩; have HB2 : Hid _ := ⟨hb2⟩; clear hb2)
    | ((with_reducible refine wpList_store_row rfl 62 (.tmp 12) (.tmp 29) rfl w2.heap.size #[.string nm, .int .i64 8, .func (.func v') #[] #[], .func (.func 58) #[] #[]] ?_ ?_ 62 _ (heap_alloc_last _ _) ?_ ?_ ?_ ?_); rfl; rfl; kernel_rfl; kernel_rfl; kernel_rfl))
  have hk := kd_new w2 #[.string nm, .int .i64 8, .func (.func v') #[] #[], .func (.func 58) #[] #[]]
  have HB : Hid (Below w.heap.size w ((w2.alloc (.cells #[.string ⟨#[]⟩, .int .i64 0, .nilFunc, .nilFunc] 62)).setRow w2.heap.size #[.string nm, .int .i64 8, .func (.func v') #[] #[], .func (.func 58) #[] #[]])) := ⟨by
    have h1 := HB0.out.trans (HB1.out.mono HB0.out.size)
    have h2 := h1.trans (HB2.out.mono h1.size)
    exact vb_setRow (h2.alloc h2.size _) h2.size _⟩
  obtain ⟨G, hG⟩ : ∃ g, w2.heap.size = g := ⟨_, rfl⟩
  rw [hG] at hk HB ⊢
  generalize (w2.alloc (.cells #[.string ⟨#[]⟩, .int .i64 0, .nilFunc, .nilFunc] 62)).setRow G #[.string nm, .int .i64 8, .func (.func v') #[] #[], .func (.func 58) #[] #[]] = W at *
  clear HB0 HB1 HB2 hG HK HV
  have k1 : W.cell? ⟨G, 1, none⟩ = some (.int .i64 8) := hk.cell 1 rfl
  have k3 : W.cell? ⟨G, 3, none⟩ = some (.func (.func 58) #[] #[]) := hk.cell 3 rfl
  clear hk
  have d1 : decide ((b : Int) < 0) = false := decide_eq_false (by omega)
  have d2 : decide ((n : Int) - 8 < b) = false := decide_eq_false (by omega)
  go_upto_region 12 with (first
    | (go_at_call 58; refine (HF.out _).mono ?_; rintro e wq ⟨rfl, hwq⟩; subst wq)
    | (go_at_call 33; refine (HP.out _).mono ?_; rintro e w3 ⟨rfl, hown3, hb3⟩; have HO3 : Hid _ := ⟨hown3⟩; have HB3 : Hid _ := ⟨hb3⟩; clear hown3 hb3))
  have HB4 : Hid (Below w.heap.size w w3) := ⟨HB.out.trans (HB3.out.mono HB.out.size)⟩
  go_upto_region 13 with (go_at_call 34; refine (HC.out _ HB4.out).mono ?_; rintro e w4 ⟨av, rfl, hown4, hb4⟩; have HO4 : Hid _ := ⟨hown4⟩; have HB5 : Hid _ := ⟨hb4⟩; clear hown4 hb4)
  have HLB : Hid (W.heap.size < w3.heap.size ∧ ∀ j x, (part v 8 8)[j]? = some x → w4.cell? ⟨W.heap.size, j, none⟩ = some x) := ⟨by
    have hlt : W.heap.size < w3.heap.size := (HO3.out.lt W.heap.size rfl).2
    refine ⟨hlt, fun j x hx => ?_⟩
    rw [HB5.out.cell (p := ⟨W.heap.size, j, none⟩) hlt]
    have hj : j < 8 := by have := (List.getElem?_eq_some_iff.1 hx).1; rwa [part_len] at this
    have := HO3.out.cellAt j (by simpa using hj)
    rw [hx] at this
    exact this⟩
  have hex : ∃ G2 c cur, av = .slice (some ⟨G2, 0, none⟩) n c ∧ w3.heap.size ≤ G2 ∧ w4.heap[G2]? = some (.cells cur 5 (0, 0)) ∧ n ≤ c ∧ c ≤ maxLen ∧ cur.size = c ∧ cur.toList.take n = (lst bs n).map (Value.int .u8) := by
    rcases HO4.out.2 with ⟨_, h⟩ | ⟨g2, c2, cur2, e1, e2, e3, e4, e5, e6, e7⟩
    · rw [lst_len] at h; omega
    · rw [lst_len] at e1 e4 e7
      exact ⟨g2, c2, cur2, e1, e2, e3, e4, e5, by simpa using e6, by simpa using e7⟩
  obtain ⟨G2, c, cur, rfl, hge, hgc, hnc, hcm, hcs, hct⟩ := hex
  have HCU : Hid _ := ⟨hgc⟩
  have HCT : Hid _ := ⟨hct⟩
  have HGE : Hid (w.heap.size ≤ G2) := ⟨Nat.le_trans HB4.out.size hge⟩
  have HB6 : Hid (Below w.heap.size w w4) := ⟨HB4.out.trans (HB5.out.mono HB4.out.size)⟩
  have HCS : Hid _ := ⟨hcs⟩
  have HCM : Hid _ := ⟨hcm⟩
  obtain ⟨LB, hLB⟩ : ∃ b, W.heap.size = b := ⟨_, rfl⟩
  rw [hLB] at HLB ⊢
  clear hgc hct hcs hge hLB HO3 HO4 HB3 HB4 HB5 HC HF HP k1 k3 HB
  have h5 : ¬ (c : Int) ≤ b := by omega
  iterate 13 go_step
  (refine wpList_copy_splice rfl (.tmp 57) (.tmp 58) 44 44 rfl 5 Try.underlying44 sz5 (some ⟨G2, b, none⟩) (some ⟨LB, 0, none⟩) (n - b) (c - b) 8 8 ?_ ?_ G2 b cur.toList 5 ?_ (part v 8 8) ?_ ?_ ?_ (part_one _ _ _) w.heap.size w HB6.out HGE.out ?_)
  focus (rfl)
  focus (rfl)
  focus (rw [Array.toArray_toList]; exact HCU.out)
  focus (rw [part_len]; exact (Nat.min_eq_left (by omega)).symm)
  focus (intro _; exact ⟨rfl, _, rfl, fun j x hx => by rw [addr_add, Nat.zero_add]; exact HLB.out.2 j x hx⟩)
  focus (rw [part_len]; have := HCS.out; simp; omega)
  intro w6 hg6 hb6
  go_wp2
  go_ret2
  exact HE.out w6 G2 c (own_put (w := w) HGE.out hnc HCM.out HCS.out HCT.out hb hg6) hb6
set_option maxHeartbeats 400000 in
set_option maxRecDepth 20000 in
theorem apply_ok_signed (ao : Option Addr) (n cap : Nat) (bs : Nat → Int) (b : Nat) (t : Int) (p : Pl) (w : World) (hrow : IsRow w ao n cap bs) (hn : n ≤ 1048576) (h0 : valE t p = 0) (hv : (kdOf t).v ≠ 0) (hf : (kdOf t).f = 60) (hs : (kdOf t).sz = 4) (hb : b + 4 ≤ n) (hfit : fitsB (valM t p) 32 true = true) :
    Calls Try.prog 23 #[.slice ao n cap, .int .i64 b, .int .i64 t, p.val] w fun e w' => AplEnd bs n (valM t p) b 4 w e w' := by
  have HV : Hid (∀ W, _) := ⟨fun W => value_any t p W⟩
  rw [h0] at HV
  have HK : Hid (∀ W, _) := ⟨fun W => kindOf_any t W⟩
  have HF : Hid (∀ W, Calls Try.prog 60 #[.int .i64 (valM t p)] W fun e w' => e = .returned (.bool true) ∧ w' = W) := ⟨fun W => by
    have := signed_any (valM t p) W
    first | exact this | (rw [hfit] at this; exact this)⟩
  have HP : Hid (∀ W, Calls Try.prog 33 #[.int .i64 (valM t p), .int .i64 4] W fun e w' => e = .returned (.tuple #[.slice (some ⟨W.heap.size, 0, none⟩) 4 4, .int .i64 0]) ∧ w'.ownsRow W.heap.size 5 1 (.slice (some ⟨W.heap.size, 0, none⟩) 4 4) 4 (part (valM t p) 4 4) ∧ Below W.heap.size W w') := ⟨fun W => by
    refine put_4 (valM t p) W ?_
    first | exact .inl (fits64 (val_in h0)) | exact .inl hfit | exact .inr hfit⟩
  have HC : Hid (∀ W, Below w.heap.size w W → Calls Try.prog 34 #[.slice ao n cap] W fun e w' => ∃ v, e = .returned v ∧ Own w' W.heap.size v (lst bs n) ∧ Below W.heap.size W w') := ⟨fun W h => clone_any ao n cap bs W (hrow.row.below h (Nat.le_refl _)) hrow.nil (fun a e => by
    rcases hrow.row with h | ⟨b, off, e2, _⟩
    · omega
    · rw [e2] at e; cases e; rfl) (by omega)⟩
  have HE : Hid (∀ w' g c, Own w' w.heap.size (.slice (some ⟨g, 0, none⟩) n c) (lst (putB bs (valM t p) b 4) n) → Below w.heap.size w w' → AplEnd bs n (valM t p) b 4 w (.returned (.tuple #[.slice (some ⟨g, 0, none⟩) n c, .int .i64 0])) w') := ⟨fun w' g c h1 h2 => ⟨g, c, rfl, h1, h2⟩⟩
  clear hrow hfit
  generalize valM t p = v at *
  generalize kdOf t = x at *
  obtain ⟨s, a, pp, g, tt⟩ := p
  have HB0 : Hid (Below w.heap.size w (w.alloc (.cells #[.int .i64 s, .int .i64 a, .int .i64 pp, .int .i64 g, .int .i64 tt] 23))) := ⟨vb_alloc (Below.refl _ _) _⟩
  dsimp only [Pl.val] at *
  obtain ⟨nm, sz, v', f⟩ := x
  dsimp only at hv hf hs
  subst hf hs
  rw [kd_valN nm _ v' _ hv (by decide)] at HK
  clear h0
  go_enter Try.func23, Try.ntmps23
  go_upto_region 7 with (first
    | (go_at_call 10; refine (HV.out _).mono ?_; rintro e w1 ⟨rfl, hb1⟩; have HB1 : Hid _ := ⟨hb1⟩; clear hb1)
    | (go_at_call 32; refine (HK.out _).mono ?_; rintro e w2 ⟨rfl, hb2⟩; have HB2 : Hid _ := ⟨hb2⟩; clear hb2)
    | ((with_reducible refine wpList_store_row rfl 62 (.tmp 12) (.tmp 29) rfl w2.heap.size #[.string nm, .int .i64 4, .func (.func v') #[] #[], .func (.func 60) #[] #[]] ?_ ?_ 62 _ (heap_alloc_last _ _) ?_ ?_ ?_ ?_); rfl; rfl; kernel_rfl; kernel_rfl; kernel_rfl))
  have hk := kd_new w2 #[.string nm, .int .i64 4, .func (.func v') #[] #[], .func (.func 60) #[] #[]]
  have HB : Hid (Below w.heap.size w ((w2.alloc (.cells #[.string ⟨#[]⟩, .int .i64 0, .nilFunc, .nilFunc] 62)).setRow w2.heap.size #[.string nm, .int .i64 4, .func (.func v') #[] #[], .func (.func 60) #[] #[]])) := ⟨by
    have h1 := HB0.out.trans (HB1.out.mono HB0.out.size)
    have h2 := h1.trans (HB2.out.mono h1.size)
    exact vb_setRow (h2.alloc h2.size _) h2.size _⟩
  obtain ⟨G, hG⟩ : ∃ g, w2.heap.size = g := ⟨_, rfl⟩
  rw [hG] at hk HB ⊢
  generalize (w2.alloc (.cells #[.string ⟨#[]⟩, .int .i64 0, .nilFunc, .nilFunc] 62)).setRow G #[.string nm, .int .i64 4, .func (.func v') #[] #[], .func (.func 60) #[] #[]] = W at *
  clear HB0 HB1 HB2 hG HK HV
  have k1 : W.cell? ⟨G, 1, none⟩ = some (.int .i64 4) := hk.cell 1 rfl
  have k3 : W.cell? ⟨G, 3, none⟩ = some (.func (.func 60) #[] #[]) := hk.cell 3 rfl
  clear hk
  have d1 : decide ((b : Int) < 0) = false := decide_eq_false (by omega)
  have d2 : decide ((n : Int) - 4 < b) = false := decide_eq_false (by omega)
  go_upto_region 12 with (first
    | (go_at_call 60; refine (HF.out _).mono ?_; rintro e wq ⟨rfl, hwq⟩; subst wq)
    | (go_at_call 33; refine (HP.out _).mono ?_; rintro e w3 ⟨rfl, hown3, hb3⟩; have HO3 : Hid _ := ⟨hown3⟩; have HB3 : Hid _ := ⟨hb3⟩; clear hown3 hb3))
  have HB4 : Hid (Below w.heap.size w w3) := ⟨HB.out.trans (HB3.out.mono HB.out.size)⟩
  go_upto_region 13 with (go_at_call 34; refine (HC.out _ HB4.out).mono ?_; rintro e w4 ⟨av, rfl, hown4, hb4⟩; have HO4 : Hid _ := ⟨hown4⟩; have HB5 : Hid _ := ⟨hb4⟩; clear hown4 hb4)
  have HLB : Hid (W.heap.size < w3.heap.size ∧ ∀ j x, (part v 4 4)[j]? = some x → w4.cell? ⟨W.heap.size, j, none⟩ = some x) := ⟨by
    have hlt : W.heap.size < w3.heap.size := (HO3.out.lt W.heap.size rfl).2
    refine ⟨hlt, fun j x hx => ?_⟩
    rw [HB5.out.cell (p := ⟨W.heap.size, j, none⟩) hlt]
    have hj : j < 4 := by have := (List.getElem?_eq_some_iff.1 hx).1; rwa [part_len] at this
    have := HO3.out.cellAt j (by simpa using hj)
    rw [hx] at this
    exact this⟩
  have hex : ∃ G2 c cur, av = .slice (some ⟨G2, 0, none⟩) n c ∧ w3.heap.size ≤ G2 ∧ w4.heap[G2]? = some (.cells cur 5 (0, 0)) ∧ n ≤ c ∧ c ≤ maxLen ∧ cur.size = c ∧ cur.toList.take n = (lst bs n).map (Value.int .u8) := by
    rcases HO4.out.2 with ⟨_, h⟩ | ⟨g2, c2, cur2, e1, e2, e3, e4, e5, e6, e7⟩
    · rw [lst_len] at h; omega
    · rw [lst_len] at e1 e4 e7
      exact ⟨g2, c2, cur2, e1, e2, e3, e4, e5, by simpa using e6, by simpa using e7⟩
  obtain ⟨G2, c, cur, rfl, hge, hgc, hnc, hcm, hcs, hct⟩ := hex
  have HCU : Hid _ := ⟨hgc⟩
  have HCT : Hid _ := ⟨hct⟩
  have HGE : Hid (w.heap.size ≤ G2) := ⟨Nat.le_trans HB4.out.size hge⟩
  have HB6 : Hid (Below w.heap.size w w4) := ⟨HB4.out.trans (HB5.out.mono HB4.out.size)⟩
  have HCS : Hid _ := ⟨hcs⟩
  have HCM : Hid _ := ⟨hcm⟩
  obtain ⟨LB, hLB⟩ : ∃ b, W.heap.size = b := ⟨_, rfl⟩
  rw [hLB] at HLB ⊢
  clear hgc hct hcs hge hLB HO3 HO4 HB3 HB4 HB5 HC HF HP k1 k3 HB
  have h5 : ¬ (c : Int) ≤ b := by omega
  iterate 13 go_step
  (refine wpList_copy_splice rfl (.tmp 57) (.tmp 58) 44 44 rfl 5 Try.underlying44 sz5 (some ⟨G2, b, none⟩) (some ⟨LB, 0, none⟩) (n - b) (c - b) 4 4 ?_ ?_ G2 b cur.toList 5 ?_ (part v 4 4) ?_ ?_ ?_ (part_one _ _ _) w.heap.size w HB6.out HGE.out ?_)
  focus (rfl)
  focus (rfl)
  focus (rw [Array.toArray_toList]; exact HCU.out)
  focus (rw [part_len]; exact (Nat.min_eq_left (by omega)).symm)
  focus (intro _; exact ⟨rfl, _, rfl, fun j x hx => by rw [addr_add, Nat.zero_add]; exact HLB.out.2 j x hx⟩)
  focus (rw [part_len]; have := HCS.out; simp; omega)
  intro w6 hg6 hb6
  go_wp2
  go_ret2
  exact HE.out w6 G2 c (own_put (w := w) HGE.out hnc HCM.out HCS.out HCT.out hb hg6) hb6
set_option maxHeartbeats 400000 in
set_option maxRecDepth 20000 in
theorem apply_ok_unsigned (ao : Option Addr) (n cap : Nat) (bs : Nat → Int) (b : Nat) (t : Int) (p : Pl) (w : World) (hrow : IsRow w ao n cap bs) (hn : n ≤ 1048576) (h0 : valE t p = 0) (hv : (kdOf t).v ≠ 0) (hf : (kdOf t).f = 62) (hs : (kdOf t).sz = 4) (hb : b + 4 ≤ n) (hfit : fitsB (valM t p) 32 false = true) :
    Calls Try.prog 23 #[.slice ao n cap, .int .i64 b, .int .i64 t, p.val] w fun e w' => AplEnd bs n (valM t p) b 4 w e w' := by
  have HV : Hid (∀ W, _) := ⟨fun W => value_any t p W⟩
  rw [h0] at HV
  have HK : Hid (∀ W, _) := ⟨fun W => kindOf_any t W⟩
  have HF : Hid (∀ W, Calls Try.prog 62 #[.int .i64 (valM t p)] W fun e w' => e = .returned (.bool true) ∧ w' = W) := ⟨fun W => by
    have := unsigned_any (valM t p) W
    first | exact this | (rw [hfit] at this; exact this)⟩
  have HP : Hid (∀ W, Calls Try.prog 33 #[.int .i64 (valM t p), .int .i64 4] W fun e w' => e = .returned (.tuple #[.slice (some ⟨W.heap.size, 0, none⟩) 4 4, .int .i64 0]) ∧ w'.ownsRow W.heap.size 5 1 (.slice (some ⟨W.heap.size, 0, none⟩) 4 4) 4 (part (valM t p) 4 4) ∧ Below W.heap.size W w') := ⟨fun W => by
    refine put_4 (valM t p) W ?_
    first | exact .inl (fits64 (val_in h0)) | exact .inl hfit | exact .inr hfit⟩
  have HC : Hid (∀ W, Below w.heap.size w W → Calls Try.prog 34 #[.slice ao n cap] W fun e w' => ∃ v, e = .returned v ∧ Own w' W.heap.size v (lst bs n) ∧ Below W.heap.size W w') := ⟨fun W h => clone_any ao n cap bs W (hrow.row.below h (Nat.le_refl _)) hrow.nil (fun a e => by
    rcases hrow.row with h | ⟨b, off, e2, _⟩
    · omega
    · rw [e2] at e; cases e; rfl) (by omega)⟩
  have HE : Hid (∀ w' g c, Own w' w.heap.size (.slice (some ⟨g, 0, none⟩) n c) (lst (putB bs (valM t p) b 4) n) → Below w.heap.size w w' → AplEnd bs n (valM t p) b 4 w (.returned (.tuple #[.slice (some ⟨g, 0, none⟩) n c, .int .i64 0])) w') := ⟨fun w' g c h1 h2 => ⟨g, c, rfl, h1, h2⟩⟩
  clear hrow hfit
  generalize valM t p = v at *
  generalize kdOf t = x at *
  obtain ⟨s, a, pp, g, tt⟩ := p
  have HB0 : Hid (Below w.heap.size w (w.alloc (.cells #[.int .i64 s, .int .i64 a, .int .i64 pp, .int .i64 g, .int .i64 tt] 23))) := ⟨vb_alloc (Below.refl _ _) _⟩
  dsimp only [Pl.val] at *
  obtain ⟨nm, sz, v', f⟩ := x
  dsimp only at hv hf hs
  subst hf hs
  rw [kd_valN nm _ v' _ hv (by decide)] at HK
  clear h0
  go_enter Try.func23, Try.ntmps23
  go_upto_region 7 with (first
    | (go_at_call 10; refine (HV.out _).mono ?_; rintro e w1 ⟨rfl, hb1⟩; have HB1 : Hid _ := ⟨hb1⟩; clear hb1)
    | (go_at_call 32; refine (HK.out _).mono ?_; rintro e w2 ⟨rfl, hb2⟩; have HB2 : Hid _ := ⟨hb2⟩; clear hb2)
    | ((with_reducible refine wpList_store_row rfl 62 (.tmp 12) (.tmp 29) rfl w2.heap.size #[.string nm, .int .i64 4, .func (.func v') #[] #[], .func (.func 62) #[] #[]] ?_ ?_ 62 _ (heap_alloc_last _ _) ?_ ?_ ?_ ?_); rfl; rfl; kernel_rfl; kernel_rfl; kernel_rfl))
  have hk := kd_new w2 #[.string nm, .int .i64 4, .func (.func v') #[] #[], .func (.func 62) #[] #[]]
  have HB : Hid (Below w.heap.size w ((w2.alloc (.cells #[.string ⟨#[]⟩, .int .i64 0, .nilFunc, .nilFunc] 62)).setRow w2.heap.size #[.string nm, .int .i64 4, .func (.func v') #[] #[], .func (.func 62) #[] #[]])) := ⟨by
    have h1 := HB0.out.trans (HB1.out.mono HB0.out.size)
    have h2 := h1.trans (HB2.out.mono h1.size)
    exact vb_setRow (h2.alloc h2.size _) h2.size _⟩
  obtain ⟨G, hG⟩ : ∃ g, w2.heap.size = g := ⟨_, rfl⟩
  rw [hG] at hk HB ⊢
  generalize (w2.alloc (.cells #[.string ⟨#[]⟩, .int .i64 0, .nilFunc, .nilFunc] 62)).setRow G #[.string nm, .int .i64 4, .func (.func v') #[] #[], .func (.func 62) #[] #[]] = W at *
  clear HB0 HB1 HB2 hG HK HV
  have k1 : W.cell? ⟨G, 1, none⟩ = some (.int .i64 4) := hk.cell 1 rfl
  have k3 : W.cell? ⟨G, 3, none⟩ = some (.func (.func 62) #[] #[]) := hk.cell 3 rfl
  clear hk
  have d1 : decide ((b : Int) < 0) = false := decide_eq_false (by omega)
  have d2 : decide ((n : Int) - 4 < b) = false := decide_eq_false (by omega)
  go_upto_region 12 with (first
    | (go_at_call 62; refine (HF.out _).mono ?_; rintro e wq ⟨rfl, hwq⟩; subst wq)
    | (go_at_call 33; refine (HP.out _).mono ?_; rintro e w3 ⟨rfl, hown3, hb3⟩; have HO3 : Hid _ := ⟨hown3⟩; have HB3 : Hid _ := ⟨hb3⟩; clear hown3 hb3))
  have HB4 : Hid (Below w.heap.size w w3) := ⟨HB.out.trans (HB3.out.mono HB.out.size)⟩
  go_upto_region 13 with (go_at_call 34; refine (HC.out _ HB4.out).mono ?_; rintro e w4 ⟨av, rfl, hown4, hb4⟩; have HO4 : Hid _ := ⟨hown4⟩; have HB5 : Hid _ := ⟨hb4⟩; clear hown4 hb4)
  have HLB : Hid (W.heap.size < w3.heap.size ∧ ∀ j x, (part v 4 4)[j]? = some x → w4.cell? ⟨W.heap.size, j, none⟩ = some x) := ⟨by
    have hlt : W.heap.size < w3.heap.size := (HO3.out.lt W.heap.size rfl).2
    refine ⟨hlt, fun j x hx => ?_⟩
    rw [HB5.out.cell (p := ⟨W.heap.size, j, none⟩) hlt]
    have hj : j < 4 := by have := (List.getElem?_eq_some_iff.1 hx).1; rwa [part_len] at this
    have := HO3.out.cellAt j (by simpa using hj)
    rw [hx] at this
    exact this⟩
  have hex : ∃ G2 c cur, av = .slice (some ⟨G2, 0, none⟩) n c ∧ w3.heap.size ≤ G2 ∧ w4.heap[G2]? = some (.cells cur 5 (0, 0)) ∧ n ≤ c ∧ c ≤ maxLen ∧ cur.size = c ∧ cur.toList.take n = (lst bs n).map (Value.int .u8) := by
    rcases HO4.out.2 with ⟨_, h⟩ | ⟨g2, c2, cur2, e1, e2, e3, e4, e5, e6, e7⟩
    · rw [lst_len] at h; omega
    · rw [lst_len] at e1 e4 e7
      exact ⟨g2, c2, cur2, e1, e2, e3, e4, e5, by simpa using e6, by simpa using e7⟩
  obtain ⟨G2, c, cur, rfl, hge, hgc, hnc, hcm, hcs, hct⟩ := hex
  have HCU : Hid _ := ⟨hgc⟩
  have HCT : Hid _ := ⟨hct⟩
  have HGE : Hid (w.heap.size ≤ G2) := ⟨Nat.le_trans HB4.out.size hge⟩
  have HB6 : Hid (Below w.heap.size w w4) := ⟨HB4.out.trans (HB5.out.mono HB4.out.size)⟩
  have HCS : Hid _ := ⟨hcs⟩
  have HCM : Hid _ := ⟨hcm⟩
  obtain ⟨LB, hLB⟩ : ∃ b, W.heap.size = b := ⟨_, rfl⟩
  rw [hLB] at HLB ⊢
  clear hgc hct hcs hge hLB HO3 HO4 HB3 HB4 HB5 HC HF HP k1 k3 HB
  have h5 : ¬ (c : Int) ≤ b := by omega
  iterate 13 go_step
  (refine wpList_copy_splice rfl (.tmp 57) (.tmp 58) 44 44 rfl 5 Try.underlying44 sz5 (some ⟨G2, b, none⟩) (some ⟨LB, 0, none⟩) (n - b) (c - b) 4 4 ?_ ?_ G2 b cur.toList 5 ?_ (part v 4 4) ?_ ?_ ?_ (part_one _ _ _) w.heap.size w HB6.out HGE.out ?_)
  focus (rfl)
  focus (rfl)
  focus (rw [Array.toArray_toList]; exact HCU.out)
  focus (rw [part_len]; exact (Nat.min_eq_left (by omega)).symm)
  focus (intro _; exact ⟨rfl, _, rfl, fun j x hx => by rw [addr_add, Nat.zero_add]; exact HLB.out.2 j x hx⟩)
  focus (rw [part_len]; have := HCS.out; simp; omega)
  intro w6 hg6 hb6
  go_wp2
  go_ret2
  exact HE.out w6 G2 c (own_put (w := w) HGE.out hnc HCM.out HCS.out HCT.out hb hg6) hb6
end Go.Proofs.Ytjbepojopfbajaa
