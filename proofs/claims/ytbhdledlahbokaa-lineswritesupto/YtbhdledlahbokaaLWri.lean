/- The program's Write. -/
import Derived.Test.YtbhdledlahbokaaLInts
namespace Go.Proofs.Ytbhdledlahbokaa
open Go.ChangeShapes Go.WideShapes Go.ChangeAt Go.RowKit
set_option linter.unusedVariables false
set_option linter.unusedSimpArgs false

/-- What Write answers. -/
def WrEnd (p : Pg) (w : World) (e : Ending) (w' : World) : Prop := ∃ v va, e = .returned (.tuple #[v, va, .int .i64 (wriE p)]) ∧ Own w' w.heap.size v (wriB p) ∧ OwnI w' w.heap.size va (wriA p) ∧ Below w.heap.size w w'
theorem WrEnd.bad {p : Pg} {w w' : World} {E : Int} (h : wriE p = E) (h0 : E ≠ 0) (hb : Below w.heap.size w w') : WrEnd p w (.returned (.tuple #[.slice none 0 0, .slice none 0 0, .int .i64 E])) w' := by
  refine ⟨.slice none 0 0, .slice none 0 0, by rw [h], ?_, ?_, hb⟩
  · unfold wriB; rw [h, if_neg h0]; exact Own.nil _ _
  · unfold wriA; rw [h, if_neg h0]; exact OwnI.nil _ _
theorem WrEnd.good {p : Pg} {w w' : World} {v va : Value} (h : wriE p = 0) (h1 : Own w' w.heap.size v (unitR p)) (h2 : OwnI w' w.heap.size va (atsF ((headR p.files ((cmdR p.seqs).length : Int)).length : Int) p.seqs)) (hb : Below w.heap.size w w') : WrEnd p w (.returned (.tuple #[v, va, .int .i64 0])) w' := by
  refine ⟨v, va, by rw [h], ?_, ?_, hb⟩
  · unfold wriB; rw [h, if_pos rfl]; exact h1
  · unfold wriA; rw [h, if_pos rfl]; exact h2
theorem cmdR_at (l : List Sq) (k : Nat) (hk : k < l.length) : cmdR (l.take (k + 1)) = cmdR (l.take k) ++ seqR (l.getD k Sq.zero) ∧ atsF 0 (l.take (k + 1)) = atsF 0 (l.take k) ++ [((cmdR (l.take k)).length : Int) + 3] := by
  rw [take_at l Sq.zero k hk, atsF_append]
  simp [cmdR, atsF]
theorem cmdR_short {n : Int} {l : List Sq} (h : l.all (seqB n) = true) (hl : l.length ≤ 64) (k : Nat) : (cmdR (l.take k)).length ≤ 12800000 := by
  have := cmdR_len (all_take h k)
  have h2 : (l.take k).length ≤ 64 := by simp; omega
  omega
theorem headR_len (l : List ByteArray) (n : Int) : (headR l n).length = 12 + (behindR l).length := by
  simp [headR, pl_len]; omega
theorem behind_short {l : List ByteArray} (h : filesB l = true) : (behindR l).length ≤ 80000 := by
  unfold filesB at h
  simp only [Bool.and_eq_true, decide_eq_true_eq] at h
  have h1 := namesR_len h.2
  have h2 := ulB_len (l.length : Int)
  have hal : always.length = 26 := rfl
  unfold behindR
  simp only [List.length_append, hal]; omega
/-- Places, some of them moved. -/
def mixA (H : Int) (l : List Sq) (k : Nat) : List Int := (atsF H l).take k ++ (atsF 0 l).drop k
theorem mixA_len (H : Int) (l : List Sq) (k : Nat) (hk : k ≤ l.length) : (mixA H l k).length = l.length := by
  simp [mixA, atsF_len]; omega
theorem atsF_in : ∀ (k : Int) (l : List Sq) (i : Nat), i < l.length → (atsF k l).getD i 0 = k + (atsF 0 l).getD i 0 := by
  intro k l i hi
  have h := atsF_add 0 k l
  rw [Int.zero_add] at h
  have h1 : i < (atsF 0 l).length := by rw [atsF_len]; exact hi
  rw [← h]
  simp [h1]
  omega
theorem mixA_at {H : Int} {l : List Sq} {k : Nat} (hk : k < l.length) : (mixA H l k).getD k 0 = (atsF 0 l).getD k 0 ∧ (mixA H l k).set k ((atsF 0 l).getD k 0 + H) = mixA H l (k + 1) := by
  have h0 : k < (atsF 0 l).length := by rw [atsF_len]; exact hk
  have h1 : k < (atsF H l).length := by rw [atsF_len]; exact hk
  have ht : ((atsF H l).take k).length = k := by simp; omega
  constructor
  · unfold mixA
    rw [List.getD_eq_getElem?_getD, List.getElem?_append_right (by omega), ht]
    simp
  · unfold mixA
    have e : (atsF 0 l).drop k = (atsF 0 l).getD k 0 :: (atsF 0 l).drop (k + 1) := by
      rw [List.drop_eq_getElem_cons h0]; simp [h0]
    rw [e, List.set_append_right _ _ (by omega), ht]
    simp only [Nat.sub_self, List.set_cons_zero]
    rw [take_at (atsF H l) 0 k h1, List.append_assoc]
    congr 1
    rw [atsF_in H l k hk]
    simp; omega
theorem atsF_small : ∀ (k : Int) (l : List Sq), ∀ x ∈ atsF k l, k ≤ x ∧ x ≤ k + ((cmdR l).length : Int) + 3
  | k, [], x, hx => by cases hx
  | k, q :: l, x, hx => by
    simp only [atsF] at hx
    simp only [cmdR, List.flatMap_cons, List.length_append]
    rcases List.mem_cons.1 hx with rfl | hx
    · omega
    · have := atsF_small _ l x hx
      simp only [cmdR] at this
      omega

set_option maxRecDepth 20000 in
set_option maxHeartbeats 4000000 in
theorem write_any (fa sa : Option Addr) (fc sc : Nat) (p : Pg) (w : World) (h : PgIn w fa sa p) :
    Calls Try.prog 8 #[.agg #[.slice fa p.files.length fc, .slice sa p.seqs.length sc]] w (WrEnd p w) := by
  have HC : Hid (∀ W, Below w.heap.size w W → Calls Try.prog 12 #[.agg #[.slice fa p.files.length fc, .slice sa p.seqs.length sc]] W fun e w' => e = .returned (.int .i64 (checkE p)) ∧ Below W.heap.size W w') := ⟨fun W hW => check_any fa sa fc sc p W (h.bel hW)⟩
  have HP : Hid _ := ⟨h⟩
  clear h
  have tk : True := trivial
  cases hck : checkB p
  · have e1 : checkE p = 150 := by unfold checkE; rw [hck]; rfl
    rw [e1] at HC
    have HW : Hid (wriE p = 150) := ⟨by unfold wriE; rw [hck]; rfl⟩
    go_enter Try.func8, Try.ntmps8
    go_wp2_with (go_at_call 12; (with_reducible refine (HC.out _ ((Below.refl _ _).alloc (Nat.le_refl _) _)).mono ?_); rintro e w3 ⟨he, hb3⟩; subst he; have H3 : Hid _ := ⟨hb3⟩; clear hb3)
    go_ret3
    exact WrEnd.bad HW.out (by decide) (((Below.refl _ _).alloc (Nat.le_refl _) _).trans (H3.out.mono (by simp)))
  have e1 : checkE p = 0 := by unfold checkE; rw [hck]; rfl
  rw [e1] at HC
  clear e1
  unfold checkB seqsB at hck
  simp only [Bool.and_eq_true, decide_eq_true_eq] at hck
  obtain ⟨hF, hsl, hall⟩ := hck
  have HF : Hid _ := ⟨hF⟩
  have HAll : Hid _ := ⟨hall⟩
  have hsl' : (p.seqs.length : Int) ≤ 64 := by omega
  clear hF hall
  have HK1 : Hid (Bk (w.alloc (.cells #[.slice fa p.files.length fc, .slice sa p.seqs.length sc] 28)) w.heap.size 28 #[.slice fa p.files.length fc, .slice sa p.seqs.length sc]) := ⟨Bk.new w _ _⟩
  go_enter Try.func8, Try.ntmps8
  go_upto_region 5 with (go_at_call 12; (with_reducible refine (HC.out _ ((Below.refl _ _).alloc (Nat.le_refl _) _)).mono ?_); rintro e w3 ⟨he, hb3⟩; subst he; have H3 : Hid _ := ⟨hb3⟩; clear hb3)
  have HB3 : Hid (Below w.heap.size w w3) := ⟨((Below.refl _ _).alloc (Nat.le_refl _) _).trans (H3.out.mono (by simp))⟩
  have K3 := HK1.out.bel H3.out (by simp)
  have d0 := K3.cell 0 rfl; have d1 := K3.cell 1 rfl
  have HK3 : Hid _ := ⟨K3⟩
  clear K3 HK1 H3 HC tk
  go_wp2
  clear d0 d1
  go_loopw [19, 3, 6] (fun iv s3 s6 wr => ∃ k : Nat, k ≤ p.seqs.length ∧ iv = .int .i64 k ∧ Hid (Own wr w.heap.size s6 (cmdR (p.seqs.take k)) ∧ OwnI wr w.heap.size s3 (atsF 0 (p.seqs.take k)) ∧ Below w.heap.size w wr ∧ Bk wr w.heap.size 28 #[.slice fa p.files.length fc, .slice sa p.seqs.length sc])) (fun iv _ _ _ => p.seqs.length - (intOf iv).toNat)
  case atStart => exact ⟨0, by omega, rfl, ⟨Own.nil _ _, OwnI.nil _ _, HB3.out, HK3.out⟩⟩
  case round =>
    obtain ⟨k, hk, rfl, HW⟩ := hrel
    by_cases hlt : k < p.seqs.length
    · obtain ⟨b, off, rfl, hat⟩ : ∃ b off, sa = some ⟨b, off, none⟩ ∧ ∀ j, j < p.seqs.length → SqAt w b (off + j * 3) (p.seqs.getD j Sq.zero) := by
        rcases HP.out.sq with h | h
        · omega
        · exact h
      have q1 : (k : Int) < (p.seqs.length : Int) := by omega
      have q0 : (0 : Int) ≤ (k : Int) := by omega
      obtain ⟨ra, rc, c0, c1, c2, hLr⟩ := hat k hlt
      replace c0 := up_belL c0 HW.out.2.2.1
      replace c1 := up_belL c1 HW.out.2.2.1
      replace c2 := up_belL c2 HW.out.2.2.1
      clear hat
      have HS : Hid _ := ⟨cmdR_at p.seqs k hlt⟩
      have HL : Hid _ := ⟨cmdR_short HAll.out hsl k⟩
      have HL2 : Hid ((atsF 0 (p.seqs.take k)).length ≤ 64) := ⟨by rw [atsF_len]; simp; omega⟩
      have HQ : Hid (seqB (p.files.length : Int) (p.seqs.getD k Sq.zero) = true) := ⟨List.all_eq_true.1 HAll.out _ (sq_in hlt)⟩
      obtain ⟨xa, xc, hxv, _⟩ := HW.out.1.bt
      subst hxv
      generalize p.seqs.getD k Sq.zero = q at *
      generalize cmdR (p.seqs.take k) = X at *
      generalize atsF 0 (p.seqs.take k) = A at *
      have hX : (X.length : Int) ≤ 12800000 := by have := HL.out; omega
      have hw1 : wrap64 ((X.length : Int) + 3) = (X.length : Int) + 3 := by unfold wrap64; omega
      have HRr : Hid (∀ W, Below w.heap.size wr W → Lrs W ra q.rows) := ⟨fun W hW => hLr.bel (HW.out.2.2.1.trans hW)⟩
      clear hLr
      have HT : Hid (Bk ((wr.alloc (.cells #[.int .i64 q.st, .int .i64 q.sz, .slice ra q.rows.length rc] 63)).alloc (.cells #[.int .i64 ((X.length : Int) + 3)] 3)) wr.heap.size 63 #[.int .i64 q.st, .int .i64 q.sz, .slice ra q.rows.length rc]) := ⟨(Bk.new wr _ _).bel ((Below.refl _ _).alloc (Nat.le_refl _) _) (by simp)⟩
      have HT2 : Hid (Bk ((wr.alloc (.cells #[.int .i64 q.st, .int .i64 q.sz, .slice ra q.rows.length rc] 63)).alloc (.cells #[.int .i64 ((X.length : Int) + 3)] 3)) (wr.heap.size + 1) 3 #[.int .i64 ((X.length : Int) + 3)]) := ⟨by
        have := Bk.new (wr.alloc (.cells #[.int .i64 q.st, .int .i64 q.sz, .slice ra q.rows.length rc] 63)) #[.int .i64 ((X.length : Int) + 3)] 3
        simpa using this⟩
      have HBl : Hid (Below wr.heap.size wr ((wr.alloc (.cells #[.int .i64 q.st, .int .i64 q.sz, .slice ra q.rows.length rc] 63)).alloc (.cells #[.int .i64 ((X.length : Int) + 3)] 3))) := ⟨((Below.refl _ _).alloc (Nat.le_refl _) _).alloc (by simp) _⟩
      go_upto_region 9 with (at_builtin; refine append_int ((wr.alloc (.cells #[.int .i64 q.st, .int .i64 q.sz, .slice ra q.rows.length rc] 63)).alloc (.cells #[.int .i64 ((X.length : Int) + 3)] 3)) rfl _ _ rfl w.heap.size u3 A rfl (HW.out.2.1.bel HBl.out) (wr.heap.size + 1) ((X.length : Int) + 3) (by simp [Act.eval, Act.put]) HT2.out (by have := HL2.out; omega) (by have := HW.out.2.2.1.size; have := HBl.out.size; omega) ?_; intro v5 w5 hO5 hG5; have H5 : Hid _ := ⟨hO5⟩; have HG5 : Hid _ := ⟨hG5⟩; clear hO5 hG5)
      have HOi : Hid _ := ⟨HW.out.2.1.bel HBl.out⟩
      have HOb : Hid _ := ⟨HW.out.1.bel HBl.out⟩
      have HKp : Hid _ := ⟨HW.out.2.2.2.bel HBl.out HW.out.2.2.2.lt⟩
      have HBb : Hid (Below w.heap.size wr ((wr.alloc (.cells #[.int .i64 q.st, .int .i64 q.sz, .slice ra q.rows.length rc] 63)).alloc (.cells #[.int .i64 ((X.length : Int) + 3)] 3))) := ⟨HBl.out.mono HW.out.2.2.1.size⟩
      clear HT2
      generalize (wr.alloc (.cells #[.int .i64 q.st, .int .i64 q.sz, .slice ra q.rows.length rc] 63)).alloc (.cells #[.int .i64 ((X.length : Int) + 3)] 3) = W2 at *
      have KT : Bk w5 wr.heap.size 63 #[.int .i64 q.st, .int .i64 q.sz, .slice ra q.rows.length rc] := HT.out.of (HG5.out.block _ HT.out.lt (fun e => HOi.out.not_bk HT.out (by decide) e.symm))
      have KP : Bk w5 w.heap.size 28 #[.slice fa p.files.length fc, .slice (some ⟨b, off, none⟩) p.seqs.length sc] := HKp.out.of (HG5.out.block _ HKp.out.lt (fun e => HOi.out.not_bk HKp.out (by decide) e.symm))
      have O5 : Own w5 w.heap.size (.slice xa X.length xc) X := HOb.out.farL HG5.out (fun k hk e => HOi.out.not_own HOb.out k e hk)
      have B5 : Below w.heap.size wr w5 := HBb.out.trans ((Below.refl _ W2).grown HG5.out (Nat.le_trans HW.out.2.2.1.size HBb.out.size) (own_block HOi.out))
      have HSq : Hid _ := ⟨appendSeq_any O5 (Nat.le_trans HW.out.2.2.1.size B5.size) (by have := HL.out; omega) q (p.files.length : Int) HQ.out ra rc (fun W hW => HRr.out W (B5.trans hW))⟩
      have HK : Hid _ := ⟨KP⟩
      have HO5 : Hid _ := ⟨O5⟩
      have HB5 : Hid _ := ⟨B5⟩
      have d0 := KT.cell 0 rfl; have d1 := KT.cell 1 rfl; have d2 := KT.cell 2 rfl
      clear KT KP O5 B5 c0 c1 c2 hw1 hX
      go_wp2_with (go_at_call 21; (with_reducible refine HSq.out.mono ?_); rintro e w6 ⟨v6, he, hA6⟩; subst he; have H6 : Hid _ := ⟨hA6⟩; clear hA6)
      go_roundw
      case rel => exact ⟨k + 1, hlt, by go_num, ⟨by rw [HS.out.1]; exact H6.out.own, by rw [HS.out.2]; exact H5.out.far H6.out.gr (fun j hj e => H5.out.not_own HO5.out j hj e), (HW.out.2.2.1.trans HB5.out).trans (H6.out.bel HO5.out (Nat.le_trans HW.out.2.2.1.size HB5.out.size)), H6.out.keep HO5.out HK.out (by decide)⟩⟩
      case measure => simp [intOf]; omega
    · obtain rfl : k = p.seqs.length := by omega
      rw [List.take_of_length_le (Nat.le_refl _)] at HW
      have HL : Hid ((cmdR p.seqs).length ≤ 12800000) := ⟨by have := cmdR_short HAll.out hsl p.seqs.length; rwa [List.take_of_length_le (Nat.le_refl _)] at this⟩
      have HBs : Hid _ := ⟨behind_short HF.out⟩
      have HHl : Hid _ := ⟨headR_len p.files ((cmdR p.seqs).length : Int)⟩
      have HFp : Hid _ := ⟨firstPart_any fa fc p.files ((cmdR p.seqs).length : Int) wr HF.out (by have := HL.out; omega) (HP.out.fs.bel HW.out.2.2.1)⟩
      have HE0 : Hid (wriE p = if bigB p then 6 else 0) := ⟨by
        have : checkB p = true := by unfold checkB seqsB; simp only [Bool.and_eq_true, decide_eq_true_eq]; exact ⟨HF.out, hsl, HAll.out⟩
        unfold wriE; rw [this]; rfl⟩
      have HE1 : Hid (bigB p = decide (1048576 < (headR p.files ((cmdR p.seqs).length : Int)).length + (cmdR p.seqs).length)) := ⟨by unfold bigB unitR; rw [List.length_append]⟩
      have HEu : Hid (unitR p = headR p.files ((cmdR p.seqs).length : Int) ++ cmdR p.seqs) := ⟨rfl⟩
      obtain ⟨xa, xc, hxv, _⟩ := HW.out.1.bt
      subst hxv
      have KP := HW.out.2.2.2
      have d0 := KP.cell 0 rfl
      clear KP
      have hXl : ((cmdR p.seqs).length : Int) ≤ 12800000 := by have := HL.out; omega
      go_upto_region 12 with (go_at_call 22; (with_reducible refine HFp.out.mono ?_); rintro e w6 ⟨v6, he, ho6, hb6⟩; subst he; have H6 : Hid _ := ⟨ho6⟩; have HB6 : Hid _ := ⟨hb6⟩; clear ho6 hb6)
      clear d0
      obtain ⟨ha, hc, hv6, _⟩ := H6.out.bt
      subst hv6
      obtain ⟨aa, ac, hu3⟩ := HW.out.2.1.sl
      rw [atsF_len] at hu3
      subst hu3
      have HXs : Hid (∀ x ∈ atsF 0 p.seqs, 0 ≤ x ∧ x ≤ 12800003) := ⟨fun x hx => by have := atsF_small 0 p.seqs x hx; have := HL.out; omega⟩
      have HGood : Hid (∀ w' v va, bigB p = false → Own w' w.heap.size v (headR p.files ((cmdR p.seqs).length : Int) ++ cmdR p.seqs) → OwnI w' w.heap.size va (atsF ((headR p.files ((cmdR p.seqs).length : Int)).length : Int) p.seqs) → Below w.heap.size w w' → WrEnd p w (.returned (.tuple #[v, va, .int .i64 0])) w') := ⟨fun w' v va hbg h1 h2 h3 => WrEnd.good (by rw [HE0.out, hbg]; rfl) h1 h2 h3⟩
      have HBad : Hid (∀ w', bigB p = true → Below w.heap.size w w' → WrEnd p w (.returned (.tuple #[.slice none 0 0, .slice none 0 0, .int .i64 6])) w') := ⟨fun w' hbg h3 => WrEnd.bad (by rw [HE0.out, hbg]; rfl) (by decide) h3⟩
      have HHs : Hid ((headR p.files ((cmdR p.seqs).length : Int)).length ≤ 80012) := ⟨by have := HHl.out; have := HBs.out; omega⟩
      clear HFp HE0 HEu HHl HBs
      generalize headR p.files ((cmdR p.seqs).length : Int) = H at *
      generalize cmdR p.seqs = X at *
      have hHl : (H.length : Int) ≤ 80012 := by have := HHs.out; omega
      have hw1 : wrap64 ((H.length : Int) + (X.length : Int)) = (H.length : Int) + (X.length : Int) := by unfold wrap64; omega
      have HB7 : Hid (Below w.heap.size w w6) := ⟨HW.out.2.2.1.trans (HB6.out.mono HW.out.2.2.1.size)⟩
      by_cases hbig : (1048576 : Int) < (H.length : Int) + (X.length : Int)
      · have HG : Hid (bigB p = true) := ⟨by rw [HE1.out]; simp; omega⟩
        go_wp2
        go_ret3
        exact HBad.out _ HG.out HB7.out
      have HG : Hid (bigB p = false) := ⟨by rw [HE1.out]; simp; omega⟩
      have HOx : Hid (Own w6 w.heap.size (.slice xa X.length xc) X) := ⟨HW.out.1.bel HB6.out⟩
      have HOi : Hid (OwnI w6 w.heap.size (.slice aa p.seqs.length ac) (atsF 0 p.seqs)) := ⟨HW.out.2.1.bel HB6.out⟩
      have HlB : Hid (w.heap.size ≤ wr.heap.size ∧ wr.heap.size ≤ w6.heap.size) := ⟨HW.out.2.2.1.size, HB6.out.size⟩
      have hHX : (H.length : Int) + (X.length : Int) ≤ 1048576 := by omega
      clear HW HBad HE1 HAll HF HK3 HB3 HB6 HP
      generalize wr.heap.size = S6 at *
      go_wp2
      clear hbig hw1
      go_loopw [46] (fun iv w7 => ∃ k : Nat, k ≤ p.seqs.length ∧ iv = .int .i64 k ∧ Hid (OwnI w7 w.heap.size (.slice aa p.seqs.length ac) (mixA (H.length : Int) p.seqs k) ∧ Own w7 S6 (.slice ha H.length hc) H ∧ Own w7 w.heap.size (.slice xa X.length xc) X ∧ Below w.heap.size w w7 ∧ S6 ≤ w7.heap.size)) (fun iv _ => p.seqs.length - (intOf iv).toNat)
      case atStart => exact ⟨0, by omega, rfl, ⟨by simpa [mixA] using HOi.out, H6.out, HOx.out, HB7.out, HlB.out.2⟩⟩
      case round =>
        obtain ⟨k, hk, rfl, HV⟩ := hrel
        by_cases hlt : k < p.seqs.length
        · have hml := mixA_len (H.length : Int) p.seqs k (by omega)
          obtain ⟨g, c, hgv, hcell⟩ := HV.out.1.lies (by rw [hml]; omega)
          rw [hml] at hgv
          cases hgv
          obtain ⟨c0, f0⟩ := hcell k (by rw [hml]; exact hlt)
          have HM : Hid _ := ⟨mixA_at (H := (H.length : Int)) hlt⟩
          rw [HM.out.1] at c0
          have hkl : k < (atsF 0 p.seqs).length := by rw [atsF_len]; exact hlt
          have hx := HXs.out ((atsF 0 p.seqs).getD k 0) (by simp [hkl])
          clear hkl
          generalize (atsF 0 p.seqs).getD k 0 = x at *
          have hw2 : wrap64 (x + (H.length : Int)) = x + (H.length : Int) := by unfold wrap64; omega
          have q1 : (k : Int) < (p.seqs.length : Int) := by omega
          have q0 : (0 : Int) ≤ (k : Int) := by omega
          clear hcell
          have HO2 : Hid (OwnI (wr.setCell ⟨g, k, none⟩ (.int .i64 (x + (H.length : Int)))) w.heap.size (.slice (some ⟨g, 0, none⟩) p.seqs.length ac) (mixA (H.length : Int) p.seqs (k + 1))) := ⟨by
            rw [← HM.out.2]
            exact HV.out.1.setN hml hlt _⟩
          have HGr : Hid _ := ⟨set_grown wr g k (.int .i64 (x + (H.length : Int)))⟩
          have HNe : Hid (∀ j b u m, Own wr b u m → u.ownBlock = some j → some g ≠ some j) := ⟨fun j b u m ho hj e => by
            injection e with e; subst e
            exact HV.out.1.not_own ho g rfl hj⟩
          have HBe : Hid (Below w.heap.size w (wr.setCell ⟨g, k, none⟩ (.int .i64 (x + (H.length : Int))))) := ⟨HV.out.2.2.2.1.trans ((Below.refl _ wr).grown HGr.out HV.out.2.2.2.1.size (fun j hj => by injection hj with hj; subst hj; exact (HV.out.1.lt' g rfl).1))⟩
          go_wp2
          go_roundw
          case rel => exact ⟨k + 1, hlt, by go_num, ⟨HO2.out, HV.out.2.1.farL HGr.out (fun j hj => HNe.out j _ _ _ HV.out.2.1 hj), HV.out.2.2.1.farL HGr.out (fun j hj => HNe.out j _ _ _ HV.out.2.2.1 hj), HBe.out, by have := HV.out.2.2.2.2; simpa using this⟩⟩
          case measure => simp [intOf]; omega
        · obtain rfl : k = p.seqs.length := by omega
          have HOf : Hid (OwnI wr w.heap.size (.slice aa p.seqs.length ac) (atsF (H.length : Int) p.seqs)) := ⟨by
            have := HV.out.1
            unfold mixA at this
            rwa [List.take_of_length_le (by rw [atsF_len]; exact Nat.le_refl _), List.drop_eq_nil_of_le (by rw [atsF_len]; exact Nat.le_refl _), List.append_nil] at this⟩
          go_wp2_with (at_builtin; refine append_bk wr rfl _ _ rfl S6 (.slice ha H.length hc) H rfl HV.out.2.1 _ X rfl HV.out.2.2.1.bt (by omega) HV.out.2.2.2.2 ?_; intro v8 w8 hA8; have H8 : Hid _ := ⟨hA8⟩; clear hA8)
          go_ret3
          exact HGood.out _ _ _ HG.out (H8.out.own.low HlB.out.1) (HOf.out.far H8.out.gr (fun j hj e => HOf.out.not_own HV.out.2.1 j hj e)) (HV.out.2.2.2.1.trans ((H8.out.bel HV.out.2.1 HV.out.2.2.2.2).mono HlB.out.1))
end Go.Proofs.Ytbhdledlahbokaa
