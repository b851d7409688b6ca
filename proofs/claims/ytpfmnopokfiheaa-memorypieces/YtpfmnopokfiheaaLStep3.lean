/- The law's step, by the kinds of calls: Put, Write. -/
import Derived.Test.YtpfmnopokfiheaaLStep2
import Derived.Test.YtpfmnopokfiheaaLGive
namespace Go.Proofs.Ytpfmnopokfiheaa
open Go.ChangeShapes Go.WideShapes Go.ChangeAt Go.RowKit Go.Maps
set_option linter.unusedVariables false
set_option linter.unusedSimpArgs false


set_option maxRecDepth 20000 in
set_option maxHeartbeats 4000000 in
theorem step_put (mb gb : Nat) (pl : Nat → Nat) (L : List Pz) (rb : Nat) (lv : Value) (pb : Nat → Nat) (a : Nat) (n may x : Int) (ao : Option Addr) (len cap : Nat) (bs : Nat → Int) (w : World) (h : Pr w mb gb pl L rb lv pb L) (hL : L.length ≤ 1024) (ha : a < 18446744073709551616) (hI : IsRow w ao len cap bs) (hl : len ≤ 140737488355328) (hna : 0 < len → ∀ b off, ao = some ⟨b, off, none⟩ → ¬ PB mb gb pl L rb lv pb L b) :
    Calls Try.prog 9 #[.pointer (some ⟨mb, 0, none⟩), .pointer (some ⟨rb, 0, none⟩), opV 8 a n may x (.slice ao len cap)] w fun e w' => e = .returned (.bool true) ∧ SX w w' mb gb pl L rb lv pb := by
  have HS : Hid _ := ⟨st2_start h 8 a n may x (.slice ao len cap) 33⟩
  have HR0 : Hid (Row (w.alloc (.cells #[.int .i64 8, .int .u64 (a : Int), .int .i64 n, .int .i64 may, .int .u64 x, .slice ao len cap] 33)) ao len bs) := ⟨hI.row.bel ((Below.refl _ _).alloc (Nat.le_refl _) _)⟩
  have HI : Hid ((∀ i, 0 ≤ bs i ∧ bs i < 256) ∧ (ao = none → len = 0 ∧ cap = 0) ∧ len ≤ 140737488355328) := ⟨hI.byte, hI.nil, hl⟩
  have HNA : Hid _ := ⟨hna⟩
  obtain ⟨E, hE⟩ : ∃ E, givE L 0 60 a len = E := ⟨_, rfl⟩
  obtain ⟨L', hL'⟩ : ∃ L', givL L 0 60 a (lst bs len) = L' := ⟨_, rfl⟩
  have hk' : L'.map (fun p => p.k) = L.map (fun p => p.k) := by rw [← hL']; exact givL_k _ _ _ _ _
  obtain ⟨S, hSS⟩ : ∃ S, PB mb gb pl L rb lv pb L = S := ⟨_, rfl⟩
  have hEE : (E == E) = true := by simp
  obtain ⟨Y, hY⟩ : ∃ Y, strOfNums (lst bs len) = Y := ⟨_, rfl⟩
  have hyy : (Y.toList == Y.toList) = true := by simp
  have HL : Hid (L'.length ≤ 1024) := ⟨by rw [k_len hk']; exact hL⟩
  have HM : Hid (∀ B W g gc, St3 w S W mb gb pl L rb lv pb L B 8 a n may x ao len cap bs g gc → Calls Try.prog 28 #[.pointer (some ⟨mb, 0, none⟩), .int .u64 (a : Int), .slice (some ⟨g, 0, none⟩) len gc] W fun e w' => e = .returned (.int .i64 E) ∧ St3 w S w' mb gb pl L' rb lv pb L B 8 a n may x ao len cap bs g gc) := ⟨fun B W g gc hs => by
    refine (put_any mb gb a pl L W hs.st.pr.m ha _ (lst bs len) (hs.src hI.byte)).mono ?_
    rintro e w' ⟨rfl, hm, ht⟩
    rw [lst_len, hE]
    rw [hL'] at hm
    exact ⟨rfl, hs.nxk hk' hm ht⟩⟩
  have HR : Hid (∀ B W g gc, St3 w S W mb gb pl L' rb lv pb L B 8 a n may x ao len cap bs g gc → Calls Try.prog 35 #[.pointer (some ⟨rb, 0, none⟩), .int .u64 (a : Int), .slice ao len cap] W fun e w' => e = .returned (.int .i64 E) ∧ St3 w S w' mb gb pl L' rb lv pb L' B 8 a n may x ao len cap bs g gc) := ⟨fun B W g gc hs => by
    have := rputs_any rb a cap ao (lst bs len) lv pb L W hs.st.pr.r ha (by omega) (by rw [lst_len]; omega) (hs.rsrc hI.byte)
    rw [lst_len, hE, hL'] at this
    refine this.mono ?_
    rintro e w' ⟨rfl, hm, ht⟩
    exact ⟨rfl, hs.rxk hk' hm ht⟩⟩
  rw [hSS] at HS
  clear h hL ha hI hl hna hE hL' hk'
  unfold opV
  go_enter Try.func9, Try.ntmps9
  go_upto_region 17 with (fail)
  obtain ⟨B, hB⟩ : ∃ B, w.heap.size = B := ⟨_, rfl⟩
  generalize hW : w.alloc (.cells #[.int .i64 8, .int .u64 (a : Int), .int .i64 n, .int .i64 may, .int .u64 x, .slice ao len cap] 33) = W at *
  rw [hB] at HS ⊢
  clear hB hW
  have HD : Hid (St2 w S (W.alloc (.cells #[] 5)) mb gb pl L rb lv pb L B 8 a n may x (.slice ao len cap)) := ⟨HS.out.bel ((Below.refl _ _).alloc (Nat.le_refl _) _)⟩
  have c5 : (W.alloc (.cells #[] 5)).cell? ⟨B, 5, none⟩ = _ := HD.out.op.c5
  go_upto_region 20 with (first
    | (at_builtin; refine append_row _ rfl _ _ rfl W.heap.size _ _ _ [] rfl (Own.empty W W.heap.size (Nat.le_refl _)) _ _ _ bs rfl (HR0.out.bel ((Below.refl _ _).alloc (Nat.le_refl _) _)) HI.out.2.1 len (by omega) (by have := HI.out.2.2; simp; omega) (by simp) ?_; intro g gc W3 hown hc1 hd1 hb1))
  rw [List.nil_append] at hown
  have H3 : Hid (St3 w S W3 mb gb pl L rb lv pb L B 8 a n may x ao len cap bs g gc) := ⟨st3_start HS.out HR0.out HNA.out (((Below.refl _ W).alloc (Nat.le_refl _) _).trans hb1) hown⟩
  clear hown hc1 hd1 hb1 c5
  have c0 := H3.out.st.op.c0
  have c1 := H3.out.st.op.c1
  go_upto_region 25 with (first
    | (go_at_call 28; (with_reducible refine (HM.out _ _ _ _ H3.out).mono ?_); rintro e w1 ⟨he, h1⟩; subst he; have HS1 : Hid _ := ⟨h1⟩; have x1 := h1.st.op.c1; have x5 := h1.st.op.c5; clear h1)
    | (go_at_call 35; (with_reducible refine (HR.out _ _ _ _ HS1.out).mono ?_); rintro e w2 ⟨he, h2⟩; subst he; have HS2 : Hid _ := ⟨h2⟩; have y5 := h2.st.op.c5; clear h2))
  have q1 := HS2.out.own.conv
  have q2 := conv_row w2 ao len cap bs HS2.out.row (fun e => (HI.out.2.1 e).1)
  rw [hY] at q1 q2
  have HSp : Hid _ := ⟨HS2.out.spoil HI.out.1 HI.out.2.2⟩
  go_wp2_with (first
    | (go_at_call 18; (with_reducible refine (num_any _ _).mono ?_); rintro e wn ⟨he, hwn⟩; subst he; subst wn)
    | (go_at_call 37; (with_reducible refine HSp.out.mono ?_); rintro e w3 ⟨he, h3⟩; subst he; have HS3 : Hid _ := ⟨h3⟩; clear h3))
  go_ret
  exact ⟨rfl, by subst hSS; exact HS3.out.sx HL.out⟩

set_option maxRecDepth 20000 in
set_option maxHeartbeats 4000000 in
theorem step_write (mb gb : Nat) (pl : Nat → Nat) (L : List Pz) (rb : Nat) (lv : Value) (pb : Nat → Nat) (k : Int) (a : Nat) (n may x : Int) (ao : Option Addr) (len cap : Nat) (bs : Nat → Int) (w : World) (h : Pr w mb gb pl L rb lv pb L) (hL : L.length ≤ 1024) (ha : a < 18446744073709551616) (hI : IsRow w ao len cap bs) (hl : len ≤ 140737488355328) (hna : 0 < len → ∀ b off, ao = some ⟨b, off, none⟩ → ¬ PB mb gb pl L rb lv pb L b) (k0 : (k == 0) = false) (k1 : (k == 1) = false) (k2 : (k == 2) = false) (k3 : (k == 3) = false) (k5 : (k == 5) = false) (k6 : (k == 6) = false) (k7 : (k == 7) = false) (k8 : (k == 8) = false) :
    Calls Try.prog 9 #[.pointer (some ⟨mb, 0, none⟩), .pointer (some ⟨rb, 0, none⟩), opV k a n may x (.slice ao len cap)] w fun e w' => e = .returned (.bool true) ∧ SX w w' mb gb pl L rb lv pb := by
  have HS : Hid _ := ⟨st2_start h k a n may x (.slice ao len cap) 33⟩
  have HR0 : Hid (Row (w.alloc (.cells #[.int .i64 k, .int .u64 (a : Int), .int .i64 n, .int .i64 may, .int .u64 x, .slice ao len cap] 33)) ao len bs) := ⟨hI.row.bel ((Below.refl _ _).alloc (Nat.le_refl _) _)⟩
  have HI : Hid ((∀ i, 0 ≤ bs i ∧ bs i < 256) ∧ (ao = none → len = 0 ∧ cap = 0) ∧ len ≤ 140737488355328) := ⟨hI.byte, hI.nil, hl⟩
  have HNA : Hid _ := ⟨hna⟩
  obtain ⟨E, hE⟩ : ∃ E, givE L 2 61 a len = E := ⟨_, rfl⟩
  obtain ⟨L', hL'⟩ : ∃ L', givL L 2 61 a (lst bs len) = L' := ⟨_, rfl⟩
  have hk' : L'.map (fun p => p.k) = L.map (fun p => p.k) := by rw [← hL']; exact givL_k _ _ _ _ _
  obtain ⟨S, hSS⟩ : ∃ S, PB mb gb pl L rb lv pb L = S := ⟨_, rfl⟩
  have hEE : (E == E) = true := by simp
  obtain ⟨Y, hY⟩ : ∃ Y, strOfNums (lst bs len) = Y := ⟨_, rfl⟩
  have hyy : (Y.toList == Y.toList) = true := by simp
  have HL : Hid (L'.length ≤ 1024) := ⟨by rw [k_len hk']; exact hL⟩
  have HM : Hid (∀ B W g gc, St3 w S W mb gb pl L rb lv pb L B k a n may x ao len cap bs g gc → Calls Try.prog 17 #[.pointer (some ⟨mb, 0, none⟩), .int .u64 (a : Int), .slice (some ⟨g, 0, none⟩) len gc] W fun e w' => e = .returned (.int .i64 E) ∧ St3 w S w' mb gb pl L' rb lv pb L B k a n may x ao len cap bs g gc) := ⟨fun B W g gc hs => by
    refine (write_any mb gb a pl L W hs.st.pr.m ha _ (lst bs len) (hs.src hI.byte)).mono ?_
    rintro e w' ⟨rfl, hm, ht⟩
    rw [lst_len, hE]
    rw [hL'] at hm
    exact ⟨rfl, hs.nxk hk' hm ht⟩⟩
  have HR : Hid (∀ B W g gc, St3 w S W mb gb pl L' rb lv pb L B k a n may x ao len cap bs g gc → Calls Try.prog 36 #[.pointer (some ⟨rb, 0, none⟩), .int .u64 (a : Int), .slice ao len cap] W fun e w' => e = .returned (.int .i64 E) ∧ St3 w S w' mb gb pl L' rb lv pb L' B k a n may x ao len cap bs g gc) := ⟨fun B W g gc hs => by
    have := rwrite_any rb a cap ao (lst bs len) lv pb L W hs.st.pr.r ha (by omega) (by rw [lst_len]; omega) (hs.rsrc hI.byte)
    rw [lst_len, hE, hL'] at this
    refine this.mono ?_
    rintro e w' ⟨rfl, hm, ht⟩
    exact ⟨rfl, hs.rxk hk' hm ht⟩⟩
  rw [hSS] at HS
  clear h hL ha hI hl hna hE hL' hk'
  unfold opV
  go_enter Try.func9, Try.ntmps9
  go_upto_region 17 with (fail)
  obtain ⟨B, hB⟩ : ∃ B, w.heap.size = B := ⟨_, rfl⟩
  generalize hW : w.alloc (.cells #[.int .i64 k, .int .u64 (a : Int), .int .i64 n, .int .i64 may, .int .u64 x, .slice ao len cap] 33) = W at *
  rw [hB] at HS ⊢
  clear hB hW
  have HD : Hid (St2 w S (W.alloc (.cells #[] 5)) mb gb pl L rb lv pb L B k a n may x (.slice ao len cap)) := ⟨HS.out.bel ((Below.refl _ _).alloc (Nat.le_refl _) _)⟩
  have c5 : (W.alloc (.cells #[] 5)).cell? ⟨B, 5, none⟩ = _ := HD.out.op.c5
  go_upto_region 20 with (first
    | (at_builtin; refine append_row _ rfl _ _ rfl W.heap.size _ _ _ [] rfl (Own.empty W W.heap.size (Nat.le_refl _)) _ _ _ bs rfl (HR0.out.bel ((Below.refl _ _).alloc (Nat.le_refl _) _)) HI.out.2.1 len (by omega) (by have := HI.out.2.2; simp; omega) (by simp) ?_; intro g gc W3 hown hc1 hd1 hb1))
  rw [List.nil_append] at hown
  have H3 : Hid (St3 w S W3 mb gb pl L rb lv pb L B k a n may x ao len cap bs g gc) := ⟨st3_start HS.out HR0.out HNA.out (((Below.refl _ W).alloc (Nat.le_refl _) _).trans hb1) hown⟩
  clear hown hc1 hd1 hb1 c5
  have c0 := H3.out.st.op.c0
  have c1 := H3.out.st.op.c1
  go_upto_region 25 with (first
    | (go_at_call 17; (with_reducible refine (HM.out _ _ _ _ H3.out).mono ?_); rintro e w1 ⟨he, h1⟩; subst he; have HS1 : Hid _ := ⟨h1⟩; have x1 := h1.st.op.c1; have x5 := h1.st.op.c5; clear h1)
    | (go_at_call 36; (with_reducible refine (HR.out _ _ _ _ HS1.out).mono ?_); rintro e w2 ⟨he, h2⟩; subst he; have HS2 : Hid _ := ⟨h2⟩; have y5 := h2.st.op.c5; clear h2))
  have q1 := HS2.out.own.conv
  have q2 := conv_row w2 ao len cap bs HS2.out.row (fun e => (HI.out.2.1 e).1)
  rw [hY] at q1 q2
  have HSp : Hid _ := ⟨HS2.out.spoil HI.out.1 HI.out.2.2⟩
  go_wp2_with (first
    | (go_at_call 18; (with_reducible refine (num_any _ _).mono ?_); rintro e wn ⟨he, hwn⟩; subst he; subst wn)
    | (go_at_call 37; (with_reducible refine HSp.out.mono ?_); rintro e w3 ⟨he, h3⟩; subst he; have HS3 : Hid _ := ⟨h3⟩; clear h3))
  go_ret
  exact ⟨rfl, by subst hSS; exact HS3.out.sx HL.out⟩
end Go.Proofs.Ytpfmnopokfiheaa
