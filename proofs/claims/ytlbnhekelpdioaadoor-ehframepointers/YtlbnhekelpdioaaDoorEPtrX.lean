/- The law EhframePointers, walked. A pointer that is handed in; the walk of EhframePointers as its card asks it. -/
import Derived.Test.YtlbnhekelpdioaaDoorERGetX
import Derived.Test.YtlbnhekelpdioaaDoorELiveX
import Derived.Test.YtlbnhekelpdioaaDoorCOpenX
import Derived.OpenShut
import Derived.ChangeOld
namespace Go.Proofs.YtlbnhekelpdioaaDoor
open Go.ChangeShapes Go.WideShapes Go.ChangeAt Go.RowKit Go.Maps
open Go.ChangeShapes Go.WideShapes Go.ChangeAt Go.RowKit
set_option linter.unusedVariables false
set_option linter.unusedSimpArgs false

set_option maxHeartbeats 4000000 in
set_option maxRecDepth 10000 in
theorem ehframePointers_walk (enc v at' data : Int) (ao : Option Addr) (len cap : Nat) (bs : Nat → Int) (t : Int) (w : World)
    (h1 : -9223372036854775808 ≤ enc ∧ enc ≤ 9223372036854775807) (hI : IsRow w ao len cap bs) (hl : len ≤ 140737488351232) (ht : -9223372036854775808 ≤ t ∧ t ≤ 9223372036854775807) (hf : Fz w) :
    Calls Tryd.prog 3 #[.agg #[.int .i64 enc, .int .i64 v, .int .i64 at', .int .i64 data], .slice ao len cap, .int .i64 t] w fun e w' => e = .returned (.bool true) ∧ Below w.heap.size w w' := by
  obtain ⟨xs, hxs⟩ : ∃ xs, lst bs len = xs := ⟨_, rfl⟩
  have hlen : xs.length = len := by rw [← hxs, lst_len]
  have hbx : ∀ x ∈ xs, 0 ≤ x ∧ x < 256 := by
    rw [← hxs]
    intro x hx
    unfold lst at hx
    obtain ⟨i, _, rfl⟩ := List.mem_map.1 hx
    exact hI.byte i
  have hrow : Row w ao xs.length (fun i => xs.getD i 0) := by
    rw [hlen]
    exact hI.row.congr fun i hi => by rw [← hxs]; exact (lst_at bs len i hi).symm
  subst hlen
  have hbt : Bt w (.slice ao xs.length cap) xs := ⟨ao, cap, rfl, hrow, hI.nil⟩
  obtain ⟨x, i, J, g, hN⟩ : ∃ x i J g, encB enc = true → NumIs (enc % 16) xs.length (fun i => xs.getD i 0) t x i J g := by
    by_cases he : encB enc = true
    · obtain ⟨x, i, J, g, h⟩ := num_is (enc % 16) (enc_of he).1 xs.length (fun i => xs.getD i 0) t (fun i => getD_byte hbx i) (by omega) ht.2
      exact ⟨x, i, J, g, fun _ => h⟩
    · exact ⟨0, 0, 0, 0, fun e => absurd e he⟩
  have HPu : Hid _ := ⟨fun w => pput enc v at' data w h1.1 h1.2⟩
  have HRu : Hid _ := ⟨fun w => rput14 enc v at' data w h1.2⟩
  have HGp : Hid _ := ⟨fun ao cap w => pget enc t at' data xs.length (fun i => xs.getD i 0) x i J g h1.1 h1.2 (by omega) hN ao cap w⟩
  have HGr : Hid _ := ⟨fun ao cap w => rget14 enc t at' data xs.length (fun i => xs.getD i 0) x i J g h1.2 ht.1 ht.2 (by omega) hN ao cap w⟩
  have HLv : Hid (∀ W : World, Below w.heap.size w W → Calls Tryd.prog 11 #[] W fun e w' => e = .returned (.bool true) ∧ Below W.heap.size W w') := ⟨fun W hb => live_any W (hf.bel hb hf.z)⟩
  have HBt : Hid _ := ⟨hbt⟩
  have HRow : Hid _ := ⟨hrow⟩
  have HX : Hid (∀ x ∈ xs, 0 ≤ x ∧ x < 256) := ⟨hbx⟩
  have HL : Hid (xs.length ≤ 140737488351232) := ⟨hl⟩
  clear hI hl hrow hbt hbx hxs hf hN
  generalize getV enc t at' data x g = gv at *
  generalize getI enc t at' data x i g = gi at *
  generalize getE enc t at' data x g = ge at *
  generalize putE enc v at' data = pe at *
  generalize putL enc v at' data = pb at *
  obtain ⟨Y, hY⟩ : ∃ Y, strOfNums xs = Y := ⟨_, rfl⟩
  obtain ⟨Z, hZ⟩ : ∃ Z, strOfNums pb = Z := ⟨_, rfl⟩
  have e1 : (pe == pe) = true := by simp
  have e2 : (ge == ge) = true := by simp
  have e3 : (gv == gv) = true := by simp
  have e4 : (gi == gi) = true := by simp
  have e5 : (Y.toList == Y.toList) = true := by simp
  have e6 : (Z.toList == Z.toList) = true := by simp
  obtain ⟨nl, hnl⟩ : ∃ nl, xs.length = nl := ⟨_, rfl⟩
  rw [hnl] at HBt HGp HGr ⊢
  have K0 : Bk (w.alloc (.cells #[.int .i64 enc, .int .i64 v, .int .i64 at', .int .i64 data] 23)) w.heap.size 23 #[.int .i64 enc, .int .i64 v, .int .i64 at', .int .i64 data] := Bk.new _ _ _
  have hb0 : Below w.heap.size w (w.alloc (.cells #[.int .i64 enc, .int .i64 v, .int .i64 at', .int .i64 data] 23)) := (Below.refl _ _).alloc (Nat.le_refl _) _
  have hs0 : Hid ((w.alloc (.cells #[.int .i64 enc, .int .i64 v, .int .i64 at', .int .i64 data] 23)).heap.size = w.heap.size + 1) := ⟨by simp⟩
  go_enter Tryd.func3, Tryd.ntmps3
  go_upto_region 1 with (fail)
  have p0 := K0.cell 0 rfl
  have p1 := K0.cell 1 rfl
  have p2 := K0.cell 2 rfl
  have p3 := K0.cell 3 rfl
  have HK0 : Hid _ := ⟨K0⟩
  have HB0 : Hid _ := ⟨hb0⟩
  generalize (w.alloc (.cells #[.int .i64 enc, .int .i64 v, .int .i64 at', .int .i64 data] 23)) = w0 at *
  clear K0 hb0
  go_upto_region 2 with (go_at_call 6; (with_reducible refine (HPu.out _).mono ?_); rintro e w1 ⟨u1, he, ho1, hb1⟩; subst he; have H1 : Hid (Own w1 w0.heap.size u1 pb ∧ Below w0.heap.size w0 w1) := ⟨ho1, hb1⟩; clear ho1 hb1)
  have K1 := HK0.out.bel H1.out.2 HK0.out.lt
  clear p0 p1 p2 p3
  have p0 := K1.cell 0 rfl
  have p1 := K1.cell 1 rfl
  have p2 := K1.cell 2 rfl
  have p3 := K1.cell 3 rfl
  clear K1
  go_upto_region 3 with (go_at_call 7; (with_reducible refine (HRu.out _).mono ?_); rintro e w2 ⟨u2, he, ho2, hb2⟩; subst he; have H2 : Hid (Own w2 w0.heap.size u1 pb ∧ Own w2 w1.heap.size u2 pb ∧ Below w0.heap.size w0 w2) := ⟨H1.out.1.bel hb2, ho2, H1.out.2.trans (hb2.mono H1.out.2.size)⟩; clear ho2 hb2)
  clear p0 p1 p2 p3 H1
  go_upto_region 4 with (at_builtin; refine append_bt _ rfl _ _ rfl w2.heap.size _ [] rfl (Own.empty w2 w2.heap.size (Nat.le_refl _)) _ xs rfl ((HBt.out.bel (HB0.out.trans (H2.out.2.2.mono HB0.out.size))).bel ((Below.refl _ _).alloc (Nat.le_refl _) _)) (by have := HL.out; simp; omega) (by simp) ?_; intro v1 w3 ho3 hb3; rw [List.nil_append] at ho3; have hb3' : Below w2.heap.size w2 w3 := ((Below.refl _ _).alloc (Nat.le_refl _) _).trans hb3; have H3 : Hid (Own w3 w0.heap.size u1 pb ∧ Own w3 w1.heap.size u2 pb ∧ Below w0.heap.size w0 w3 ∧ Own w3 w2.heap.size v1 xs) := ⟨H2.out.1.bel hb3', H2.out.2.1.bel hb3', H2.out.2.2.trans (hb3'.mono H2.out.2.2.size), ho3⟩; clear ho3 hb3 hb3')
  clear H2
  obtain ⟨a1, c1, hv1, hI1⟩ := H3.out.2.2.2.isr HX.out
  rw [hnl] at hv1
  subst hv1
  have K3 := HK0.out.bel H3.out.2.2.1 HK0.out.lt
  have p0 := K3.cell 0 rfl
  have p2 := K3.cell 2 rfl
  have p3 := K3.cell 3 rfl
  clear K3
  have HI1 : Hid (Row w3 a1 nl (fun i => xs.getD i 0)) := ⟨by rw [← hnl]; exact hI1.row⟩
  clear hI1
  go_upto_region 5 with (go_at_call 8; (with_reducible refine (HGp.out a1 c1 _ HI1.out).mono ?_); rintro e w4 ⟨he, hb4⟩; subst he; have H4 : Hid (Own w4 w0.heap.size u1 pb ∧ Own w4 w1.heap.size u2 pb ∧ Below w0.heap.size w0 w4 ∧ Own w4 w2.heap.size (.slice a1 nl c1) xs) := ⟨H3.out.1.bel hb4, H3.out.2.1.bel hb4, H3.out.2.2.1.trans (hb4.mono H3.out.2.2.1.size), H3.out.2.2.2.bel hb4⟩; clear hb4)
  clear H3 p0 p2 p3
  have K4 := HK0.out.bel H4.out.2.2.1 HK0.out.lt
  have p0 := K4.cell 0 rfl
  have p2 := K4.cell 2 rfl
  have p3 := K4.cell 3 rfl
  clear K4
  have HB4 : Hid (Below w.heap.size w w4) := ⟨HB0.out.trans (H4.out.2.2.1.mono HB0.out.size)⟩
  have HR4 : Hid (Row w4 ao nl (fun i => xs.getD i 0)) := ⟨by rw [← hnl]; exact HRow.out.below HB4.out (Nat.le_refl _)⟩
  go_upto_region 6 with (go_at_call 9; (with_reducible refine (HGr.out ao cap _ HR4.out).mono ?_); rintro e wn ⟨he, hwn⟩; subst he; subst wn)
  clear p0 p2 p3
  have hc1 := H4.out.2.2.2.bt.conv
  have hc2 := (HBt.out.bel HB4.out).conv
  have hc3 := H4.out.1.bt.conv
  have hc4 := H4.out.2.1.bt.conv
  rw [hY] at hc1 hc2
  rw [hZ] at hc3 hc4
  go_wp2_with (first
    | (go_at_call 10; (with_reducible refine (enum_any _ _).mono ?_); rintro e wn ⟨he, hwn⟩; subst he; subst wn)
    | (go_at_call 11; (with_reducible refine (HLv.out _ HB4.out).mono ?_); rintro e w5 ⟨he, hb5⟩; subst he))
  go_ret
  exact ⟨rfl, HB4.out.trans (hb5.mono HB4.out.size)⟩

theorem bytes5 : Tryd.prog.bytesOf 5 = 1 := by kernel_rfl
theorem cellsPtr : Tryd.prog.cellsOf 23 = 4 := by kernel_rfl
theorem i64_in {a : Int} (h : (Lit.int .i64 a).wf = true) : -9223372036854775808 ≤ a ∧ a ≤ 9223372036854775807 := by
  simpa [Lit.wf, IntKind.min, IntKind.max, IntKind.signed, IntKind.bits] using h
set_option maxRecDepth 20000 in
theorem open_ptr {H : Type} {enc : TypeId × Value → H} {w : World} {base b0 : Nat} {sp : Nat → Bool} {held : Bool} {r : Reach} {v : Value} {d : DataW H} {p : List MemPlace}
    (hval : Value.okWide Tryd.prog w r b0 23 v) (hd : DataW.Trod enc Tryd.prog w base sp held 23 v d p) :
    ∃ a b c e : Int, v = .agg #[.int .i64 a, .int .i64 b, .int .i64 c, .int .i64 e] ∧ d = .agg [.lit (.int .i64 a), .lit (.int .i64 b), .lit (.int .i64 c), .lit (.int .i64 e)] ∧ p = [] ∧ (Lit.int .i64 a).wf = true ∧ (Lit.int .i64 b).wf = true ∧ (Lit.int .i64 c).wf = true ∧ (Lit.int .i64 e).wf = true := by
  obtain ⟨cs, rfl, hsz⟩ := okWide_struct Tryd.underlying23 hval
  rw [cellsPtr] at hsz
  obtain ⟨fuel, hf⟩ := hd
  obtain ⟨xs, n, _, hx, hl, hlen, hfs⟩ := DataW.trod_struct Tryd.underlying23 hf
  obtain ⟨l⟩ := cs
  match l, hsz, xs, hlen with
  | [x0, x1, x2, x3], _, [y0, y1, y2, y3], _ =>
    have h0 := hfs 0 _ rfl
    have h1 := hfs 1 _ rfl
    have h2 := hfs 2 _ rfl
    have h3 := hfs 3 _ rfl
    simp [cellsI, Value.cells] at h0 h1 h2 h3
    obtain ⟨b0, e0, f0, g0⟩ := DataW.trod_int Tryd.underlying3 h0
    obtain ⟨b1, e1, f1, g1⟩ := DataW.trod_int Tryd.underlying3 h1
    obtain ⟨b2, e2, f2, g2⟩ := DataW.trod_int Tryd.underlying3 h2
    obtain ⟨b3, e3, f3, g3⟩ := DataW.trod_int Tryd.underlying3 h3
    simp at e0 e1 e2 e3
    subst e0 e1 e2 e3 f0 f1 f2 f3
    have hx1 := congrArg Prod.fst hx
    have hx2 := congrArg Prod.snd hx
    simp at hx1 hx2
    exact ⟨b0, b1, b2, b3, rfl, hx1, hx2, g0, g1, g2, g3⟩
set_option maxRecDepth 20000 in
theorem shut_ptr {H : Type} {enc : TypeId × Value → H} {w : World} {base : Nat} {sp : Nat → Bool} {held : Bool} {a b c e : Int} (h1 : (Lit.int .i64 a).wf = true) (h2 : (Lit.int .i64 b).wf = true) (h3 : (Lit.int .i64 c).wf = true) (h4 : (Lit.int .i64 e).wf = true) :
    DataW.Trod enc Tryd.prog w base sp held 23 (.agg #[.int .i64 a, .int .i64 b, .int .i64 c, .int .i64 e]) (.agg [.lit (.int .i64 a), .lit (.int .i64 b), .lit (.int .i64 c), .lit (.int .i64 e)]) [] :=
  ⟨2, by simp [DataW.trod, Tryd.underlying23, Tryd.underlying3, cellsPtr, cellsI, Value.cells, h1, h2, h3, h4]⟩
theorem ehframePointers_wk (enc v at' data : Int) (ao : Option Addr) (len cap : Nat) (bs : Nat → Int) (t : Int) (w : World)
    (h1 : (Lit.int .i64 enc).wf = true) (h2 : (Lit.int .i64 v).wf = true) (h3 : (Lit.int .i64 at').wf = true) (h4 : (Lit.int .i64 data).wf = true) (hI : IsRow w ao len cap bs) (hl : len ≤ 140737488351232) (ht : (Lit.int .i64 t).wf = true) (hf : Fz w) :
    Calls Tryd.prog 3 #[.agg #[.int .i64 enc, .int .i64 v, .int .i64 at', .int .i64 data], .slice ao len cap, .int .i64 t] w fun e w' => e = .returned (.bool true) ∧ Below w.heap.size w w' :=
  ehframePointers_walk enc v at' data ao len cap bs t w (i64_in h1) hI hl (i64_in ht) hf
end Go.Proofs.YtlbnhekelpdioaaDoor
