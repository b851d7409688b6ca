/- RelocRelaxed: the law's walk. -/
import Derived.Test.YtjbepojopfbajaaVDec
import Derived.Test.YtjbepojopfbajaaVLive
namespace Go.Proofs.Ytjbepojopfbajaa
open Go.ChangeShapes Go.WideShapes Go.ChangeAt Go.RowKit
set_option linter.unusedVariables false
set_option linter.unusedSimpArgs false

def icells (i : I) : Array Value := #[.int .i64 i.op, .int .i64 i.sz, .int .i64 i.cd,
  .int .i64 i.to.k, .int .i64 i.to.r, .int .i64 i.to.b, .int .i64 i.to.x, .int .i64 i.to.s, .bool i.to.rip, .bool i.to.fs, .int .i64 i.to.n, .string i.to.nm, .int .i64 i.to.m,
  .int .i64 i.fr.k, .int .i64 i.fr.r, .int .i64 i.fr.b, .int .i64 i.fr.x, .int .i64 i.fr.s, .bool i.fr.rip, .bool i.fr.fs, .int .i64 i.fr.n, .string i.fr.nm, .int .i64 i.fr.m, .bool i.sh]
theorem eq_inst (i : I) (w : World) : (binOp .eql 56 i.val i.val).run Try.prog w = .ok (.bool true) w := by
  simp [go_sem]
theorem VB.setC {w : World} {b t : Nat} {cs : Array Value} (h : VB w b t cs) (j : Nat) (v : Value) : VB (w.setCell ⟨b, j, none⟩ v) b t (cs.setIfInBounds j v) := ⟨heap_setCell_same w b j cs t v h.hp⟩
theorem VB.setCo {w : World} {b t : Nat} {cs : Array Value} (h : VB w b t cs) (p : Addr) (v : Value) (hp : b ≠ p.block) : VB (w.setCell p v) b t cs := h.of (heap_setCell_other w p b v hp)
theorem btr5 {a w w' : World} (h : Below a.heap.size a w) (h' : Below w.heap.size w w') : Below a.heap.size a w' := h.trans (h'.mono h.size)
/-- The two instructions. -/
theorem rel_sev {bs : Nat → Int} {n a : Nat} (hb : ∀ i, 0 ≤ bs i ∧ bs i < 256) (ha : a + 7 ≤ n) (hl : ldB (bs a) (bs (a + 1)) (bs (a + 2)) = true) : ∃ i : I, i.op = 1 ∧ oneM n bs a = (i, 7, 0) ∧ oneM n (fun k => if k = a + 1 then 141 else bs k) a = (i.lea, 7, 0) := by
  have hx : bs a = 72 ∨ bs a = 76 := by
    have h1 := hl
    unfold ldB at h1
    simp only [Bool.and_eq_true] at h1
    have h2 := h1.1.1
    rw [ld_x (hb a)] at h2
    simp at h2
    exact h2
  unfold ldB at hl
  simp only [Bool.and_eq_true] at hl
  have hy : bs (a + 1) = 139 := by simpa using hl.1.2
  have hz := mod_rip (hb (a + 2)) hl.2
  obtain ⟨i, h1, h2, h3⟩ := sev_any hx hz (fun k => bs (a + k))
  refine ⟨i, h1, one_sev h2 ha rfl hy rfl (fun _ _ _ => rfl), one_sev h3 ha ?_ ?_ ?_ (fun k h4 h5 => ?_)⟩
  · rw [if_neg (by omega)]
  · rw [if_pos rfl]
  · rw [if_neg (by omega)]
  · rw [if_neg (by omega)]
set_option maxHeartbeats 1000000 in
set_option maxRecDepth 20000 in
theorem relocRelaxed_walk (ao : Option Addr) (n cap : Nat) (bs : Nat → Int) (at' : Int) (w : World) (hI : IsRow w ao n cap bs) (hl : n ≤ 140737488351232) (wa : (Lit.int .i64 at').wf = true) :
    Calls Try.prog 7 #[.slice ao n cap, .int .i64 at'] w fun e w' => e = .returned (.bool true) ∧ Below w.heap.size w w' := by
  have hat := i64_bounds wa
  have HZ : Hd (ao = none → n = 0 ∧ cap = 0) := ⟨hI.nil⟩
  have HY : Hd (∀ i, 0 ≤ bs i ∧ bs i < 256) := ⟨hI.byte⟩
  have HI : Hd (∀ W, Below w.heap.size w W → IsRow W ao n cap bs) := ⟨fun W h => ⟨hI.row.below h (Nat.le_refl _), hI.byte, hI.fit, hI.top, hI.nil⟩⟩
  have HR1 : Hd (∀ va vc W, IsRow W va n vc bs → Calls Try.prog 25 #[.slice va n vc, .int .i64 at'] W fun e w' => RlxU n bs at' W e w') := ⟨fun va vc W h => relax_any va n vc bs at' W h (by omega) hat⟩
  have HON : Hd (∀ W va vc f, 7 ≤ n → IsRow W va n vc f → ∀ t : Int, Calls Try.prog 28 #[.slice va n vc, .int .i64 t] W fun e w' => e = .returned (.tuple #[(oneM n f t).1.val, .int .i64 (oneM n f t).2.1, .int .i64 (oneM n f t).2.2]) ∧ Below W.heap.size W w') := ⟨fun W va vc f h7 h t => one_any va n vc f t W h.row h.byte h.nil (fun a e => by
    rcases h.row with h0 | ⟨b, off, e2, _⟩
    · omega
    · rw [e2] at e; cases e; exact ⟨b, off, rfl⟩) h.fit h.top (by omega)⟩
  have HL : Hd (∀ W, _) := ⟨fun W => liveV_any W⟩
  have HN : Hd (∀ n W, _) := ⟨fun n W => numV_any n W⟩
  clear hI wa hat
  go_enter Try.func7, Try.ntmps7
  go_upto_region 2 with (first
    | (at_builtin; refine append_row _ rfl _ _ rfl w.heap.size w.heap.size 0 0 [] rfl (Own.empty w _ (Nat.le_refl _)) ao n cap bs rfl (((HI.out _ (Below.refl _ _)).row).alloc _) HZ.out n (by omega) (by simp; omega) (by simp) ?_; intro g1 c1 w1 hown q1 q2 hbel; have HO1 : Hd (Own w1 w.heap.size (.slice (some ⟨g1, 0, none⟩) n c1) (lst bs n)) := ⟨by simpa using hown⟩; have HB1 : Hd (Below w.heap.size w w1) := ⟨((Below.refl _ _).alloc (Nat.le_refl _) _).trans hbel⟩; clear hown hbel q1 q2)
    | (go_at_call 25; refine (HR1.out _ _ _ (own_isRow HO1.out HY.out)).mono ?_; rintro e w2 (⟨hr, rfl, hb2⟩ | ⟨hr, a, hat, ha7, hld, g, c, rfl, ho2, hb2⟩) <;> have HB2 : Hd (Below w.heap.size w w2) := ⟨HB1.out.trans (hb2.mono HB1.out.size)⟩ <;> clear hb2))
  · go_wp2_with (go_at_call 22; refine (HL.out _).mono ?_; rintro e w8 ⟨rfl, hb8⟩; have HB8 : Hd _ := ⟨hb8⟩; clear hb8)
    go_ret
    exact ⟨rfl, HB2.out.trans (HB8.out.mono HB2.out.size)⟩
  · subst hat
    obtain ⟨iv, hop, h1, h2⟩ := rel_sev HY.out ha7 hld
    rw [lst_set] at ho2
    have hfb : ∀ k, 0 ≤ (if k = a + 1 then 141 else bs k) ∧ (if k = a + 1 then 141 else bs k) < 256 := fun k => by
      split
      · omega
      · exact HY.out k
    have HRA : Hd (∀ W, Below w2.heap.size w2 W → IsRow W (some ⟨g, 0, none⟩) n c (fun k => if k = a + 1 then 141 else bs k)) := ⟨fun W h => by
      have h8 := own_isRow ho2 hfb
      exact ⟨h8.row.below h (Nat.le_refl _), h8.byte, h8.fit, h8.top, h8.nil⟩⟩
    have HX : Hd (∀ W, Below w2.heap.size w2 W → Calls Try.prog 28 #[.slice ao n cap, .int .i64 a] W fun e w' => e = .returned (.tuple #[.agg (icells iv), .int .i64 7, .int .i64 0]) ∧ Below W.heap.size W w') := ⟨fun W h => by
      have := HON.out W ao cap bs (by omega) (HI.out W (HB2.out.trans (h.mono HB2.out.size))) a
      rw [h1] at this
      exact this⟩
    have HX2 : Hd (∀ W, Below w2.heap.size w2 W → Calls Try.prog 28 #[.slice (some ⟨g, 0, none⟩) n c, .int .i64 a] W fun e w' => e = .returned (.tuple #[.agg (icells iv.lea), .int .i64 7, .int .i64 0]) ∧ Below W.heap.size W w') := ⟨fun W h => by
      have := HON.out W _ c _ (by omega) (HRA.out W h) a
      rw [h2] at this
      exact this⟩
    have hc0 : (icells iv)[0]? = some (.int .i64 1) := by rw [← hop]; rfl
    have HC0 : Hd _ := ⟨hc0⟩
    have HCS : Hd ((icells iv).setIfInBounds 0 (.int .i64 2) = icells iv.lea ∧ (icells iv).size = 24 ∧ (icells iv.lea).size = 24 ∧ (icells iv).all (·.oneCell') = true ∧ (icells iv.lea).all (·.oneCell') = true ∧ (icells iv.lea)[0]? = some (.int .i64 2)) := ⟨by kernel_rfl, by kernel_rfl, by kernel_rfl, by kernel_rfl, by kernel_rfl, by kernel_rfl⟩
    have HEQ : Hd (∀ W, (binOp .eql 56 (.agg (icells iv.lea)) (.agg (icells iv.lea))).run Try.prog W = .ok (.bool true) W) := ⟨fun W => eq_inst iv.lea W⟩
    clear hop h1 h2 hc0 ho2 hld hr HON HR1 HRA HI HO1 HB1 HZ hfb
    generalize icells iv = ci at *
    generalize icells iv.lea = cl at *
    have d1 : ¬ ((a : Int) + 3 < 3) := by omega
    have d2 : ¬ ((n : Int) < (a : Int) + 3 + 4) := by omega
    have e9 : (a : Int) + 3 - 3 = a := by omega
    go_upto_region 6 with (fail)
    have HW2 : Hd (Below w2.heap.size w2 w2) := ⟨Below.refl _ _⟩
    go_upto_region 7 with (first
      | (go_at_call 28; (with_reducible refine (HX.out _ HW2.out).mono ?_); rintro e w3 ⟨rfl, hb3⟩; have HB3 : Hd (Below w2.heap.size w2 w3) := ⟨hb3⟩; clear hb3)
      | ((with_reducible refine wpList_store_row rfl 56 (.tmp 8) (.tmp 52) rfl w3.heap.size ci ?_ ?_ 56 _ (heap_alloc_last _ _) ?_ ?_ ?_ ?_); rfl; rfl; (rw [HCS.out.2.1]; kernel_rfl); (rw [HCS.out.2.1]; kernel_rfl); exact HCS.out.2.2.2.1))
    have hk := (VB.new w3 #[.int .i64 0, .int .i64 0, .int .i64 0, .int .i64 0, .int .i64 0, .int .i64 0, .int .i64 0, .int .i64 0, .bool false, .bool false, .int .i64 0, .string ⟨#[]⟩, .int .i64 0, .int .i64 0, .int .i64 0, .int .i64 0, .int .i64 0, .int .i64 0, .bool false, .bool false, .int .i64 0, .string ⟨#[]⟩, .int .i64 0, .bool false] 56).setR ci
    have HV3 : Hd (Below w2.heap.size w2 ((w3.alloc (.cells #[.int .i64 0, .int .i64 0, .int .i64 0, .int .i64 0, .int .i64 0, .int .i64 0, .int .i64 0, .int .i64 0, .bool false, .bool false, .int .i64 0, .string ⟨#[]⟩, .int .i64 0, .int .i64 0, .int .i64 0, .int .i64 0, .int .i64 0, .int .i64 0, .bool false, .bool false, .int .i64 0, .string ⟨#[]⟩, .int .i64 0, .bool false] 56)).setRow w3.heap.size ci)) := ⟨vb_setRow (HB3.out.alloc HB3.out.size _) HB3.out.size _⟩
    have HXG0 : Hd (w.heap.size ≤ w3.heap.size) := ⟨Nat.le_trans HB2.out.size HB3.out.size⟩
    obtain ⟨X, hX⟩ : ∃ X, w3.heap.size = X := ⟨_, rfl⟩
    rw [hX] at hk HV3 HXG0 ⊢
    clear hX
    generalize (w3.alloc (.cells #[.int .i64 0, .int .i64 0, .int .i64 0, .int .i64 0, .int .i64 0, .int .i64 0, .int .i64 0, .int .i64 0, .bool false, .bool false, .int .i64 0, .string ⟨#[]⟩, .int .i64 0, .int .i64 0, .int .i64 0, .int .i64 0, .int .i64 0, .int .i64 0, .bool false, .bool false, .int .i64 0, .string ⟨#[]⟩, .int .i64 0, .bool false] 56)).setRow X ci = v3 at *
    have HK3 : Hd _ := ⟨hk⟩
    clear hk HB3 HW2
    go_upto_region 8 with (first
      | (go_at_call 28; (with_reducible refine (HX2.out _ HV3.out).mono ?_); rintro e w4 ⟨rfl, hb4⟩; have HB4 : Hd (Below v3.heap.size v3 w4) := ⟨hb4⟩; clear hb4)
      | ((with_reducible refine wpList_store_row rfl 56 (.tmp 11) (.tmp 60) rfl w4.heap.size cl ?_ ?_ 56 _ (heap_alloc_last _ _) ?_ ?_ ?_ ?_); rfl; rfl; (rw [HCS.out.2.2.1]; kernel_rfl); (rw [HCS.out.2.2.1]; kernel_rfl); exact HCS.out.2.2.2.2.1))
    have hk := (VB.new w4 #[.int .i64 0, .int .i64 0, .int .i64 0, .int .i64 0, .int .i64 0, .int .i64 0, .int .i64 0, .int .i64 0, .bool false, .bool false, .int .i64 0, .string ⟨#[]⟩, .int .i64 0, .int .i64 0, .int .i64 0, .int .i64 0, .int .i64 0, .int .i64 0, .bool false, .bool false, .int .i64 0, .string ⟨#[]⟩, .int .i64 0, .bool false] 56).setR cl
    have hlt : X < w4.heap.size := Nat.lt_of_lt_of_le HK3.out.lt HB4.out.size
    have hk3 : VB ((w4.alloc (.cells #[.int .i64 0, .int .i64 0, .int .i64 0, .int .i64 0, .int .i64 0, .int .i64 0, .int .i64 0, .int .i64 0, .bool false, .bool false, .int .i64 0, .string ⟨#[]⟩, .int .i64 0, .int .i64 0, .int .i64 0, .int .i64 0, .int .i64 0, .int .i64 0, .bool false, .bool false, .int .i64 0, .string ⟨#[]⟩, .int .i64 0, .bool false] 56)).setRow w4.heap.size cl) X 56 ci := ((HK3.out.bel HB4.out HK3.out.lt).alloc _).setO (by omega) _
    have HV4 : Hd (Below w.heap.size w ((w4.alloc (.cells #[.int .i64 0, .int .i64 0, .int .i64 0, .int .i64 0, .int .i64 0, .int .i64 0, .int .i64 0, .int .i64 0, .bool false, .bool false, .int .i64 0, .string ⟨#[]⟩, .int .i64 0, .int .i64 0, .int .i64 0, .int .i64 0, .int .i64 0, .int .i64 0, .bool false, .bool false, .int .i64 0, .string ⟨#[]⟩, .int .i64 0, .bool false] 56)).setRow w4.heap.size cl)) := ⟨by
      have h1 := HB2.out.trans (HV3.out.mono HB2.out.size)
      have h2 := h1.trans (HB4.out.mono h1.size)
      exact vb_setRow (h2.alloc h2.size _) h2.size _⟩
    have HXG : Hd (w.heap.size ≤ X) := ⟨HXG0.out⟩
    obtain ⟨Y, hY⟩ : ∃ Y, w4.heap.size = Y := ⟨_, rfl⟩
    rw [hY] at hk hk3 HV4 hlt ⊢
    clear hY
    generalize (w4.alloc (.cells #[.int .i64 0, .int .i64 0, .int .i64 0, .int .i64 0, .int .i64 0, .int .i64 0, .int .i64 0, .int .i64 0, .bool false, .bool false, .int .i64 0, .string ⟨#[]⟩, .int .i64 0, .int .i64 0, .int .i64 0, .int .i64 0, .int .i64 0, .int .i64 0, .bool false, .bool false, .int .i64 0, .string ⟨#[]⟩, .int .i64 0, .bool false] 56)).setRow Y cl = v4 at *
    have x0 := hk3.cell 0 HC0.out
    have y0 := hk.cell 0 HCS.out.2.2.2.2.2
    have xf := hk3.fro 0
    have HX5 : Hd (VB (v4.setCell ⟨X, 0, none⟩ (.int .i64 2)) X 56 cl) := ⟨by
      have := hk3.setC 0 (.int .i64 2)
      rw [HCS.out.1] at this
      exact this⟩
    have HY5 : Hd (VB (v4.setCell ⟨X, 0, none⟩ (.int .i64 2)) Y 56 cl) := ⟨hk.setCo ⟨X, 0, none⟩ (.int .i64 2) (show Y ≠ X by omega)⟩
    have HV5 : Hd (Below w.heap.size w (v4.setCell ⟨X, 0, none⟩ (.int .i64 2))) := ⟨HV4.out.setCell (show w.heap.size ≤ X from HXG.out) _⟩
    have heq := HEQ.out
    clear hk hk3 HX HX2 HK3 HV3 HB4 HEQ
    go_upto_region 11 with (go_at_call 17; refine (HN.out _ _).mono ?_; rintro e wq ⟨rfl, hwq⟩; subst wq)
    generalize v4.setCell ⟨X, 0, none⟩ (.int .i64 2) = v5 at *
    clear x0 y0 xf
    go_wp2_with (first
      | (go_at_call 22; refine (HL.out _).mono ?_; rintro e w8 ⟨rfl, hb8⟩; have HB8 : Hd _ := ⟨hb8⟩; clear hb8)
      | ((with_reducible refine wpList_load_row rfl 56 (.tmp 8) rfl X ?_ 56 cl (0, 0) _ HX5.out.hp Try.underlying56 ?_ ?_ ?_); rfl; rfl; (rw [HCS.out.2.2.1]; kernel_rfl))
      | ((with_reducible refine wpList_load_row rfl 56 (.tmp 11) rfl Y ?_ 56 cl (0, 0) _ HY5.out.hp Try.underlying56 ?_ ?_ ?_); rfl; rfl; (rw [HCS.out.2.2.1]; kernel_rfl)))
    go_ret
    exact ⟨rfl, HV5.out.trans (HB8.out.mono HV5.out.size)⟩
end Go.Proofs.Ytjbepojopfbajaa
