/- The contract of the document's Text: what the program's says. -/
import Derived.Test.YtdgejingoamfeaaDoorRefText
import Derived.Test.YtdgejingoamfeaaDoorRefTextB
import Derived.Test.YtdgejingoamfeaaDoorRefTextD
namespace Go.Proofs.YtdgejingoamfeaaDoor
open Go.ChangeShapes Go.WideShapes Go.ChangeAt Go.RowKit
set_option linter.unusedVariables false
set_option linter.unusedSimpArgs false

theorem emp_dec (s : ByteArray) : empB s = decide (s.size = 0) := by
  unfold empB
  rw [ByteArray.toList_eq, Bool.eq_iff_iff, List.isEmpty_iff, decide_eq_true_eq]
  constructor
  · intro h
    show s.data.size = 0
    simpa using congrArg List.length h
  · intro h
    have : s.data.toList.length = 0 := by simpa using h
    exact List.eq_nil_of_length_eq_zero this

theorem opd_emp (o : O) (z : Int) (h : mayB o = true) (hn : i64 o.n) (hs : i64 o.s) : empB (opdV o z) = (o.k == 0) := by
  have k1 : (⟨#[37]⟩ : ByteArray).size = 1 := rfl
  have k2 : (⟨#[36]⟩ : ByteArray).size = 1 := rfl
  have k3 : (⟨#[37, 102, 115, 58]⟩ : ByteArray).size = 4 := rfl
  have k4 : (⟨#[40, 37, 114, 105, 112, 41]⟩ : ByteArray).size = 6 := rfl
  have k5 : (⟨#[41]⟩ : ByteArray).size = 1 := rfl
  have k6 : (⟨#[46]⟩ : ByteArray).size = 1 := rfl
  by_cases h0 : o.k = 0
  · rw [show opdV o z = ⟨#[]⟩ by unfold opdV; rw [if_neg (by omega), if_neg (by omega), if_neg (by omega), if_neg (by omega)]]
    simp [h0, emp_dec]
    rfl
  · have e : (o.k == 0) = false := by simp [h0]
    rw [e, emp_dec, decide_eq_false_iff_not]
    by_cases e1 : o.k = 1
    · unfold opdV; rw [if_pos e1, ByteArray.size_append]; omega
    by_cases e2 : o.k = 2
    · unfold opdV; rw [if_neg e1, if_pos e2, ByteArray.size_append]; omega
    by_cases e3 : o.k = 3
    · unfold opdV; rw [if_neg e1, if_neg e2, if_pos e3]
      unfold memV
      split
      · rw [ByteArray.size_append]; omega
      · split
        · rw [ByteArray.size_append]; omega
        · split
          · rw [ByteArray.size_append]; omega
          · rw [ByteArray.size_append]; omega
    by_cases e4 : o.k = 4
    · unfold opdV; rw [if_neg e1, if_neg e2, if_neg e3, if_pos e4]
      unfold targetV
      cases he : empB o.nm
      · rw [if_neg (by simp), ByteArray.size_append]
        rw [emp_dec, decide_eq_false_iff_not] at he
        omega
      · rw [if_pos rfl, ByteArray.size_append]; omega
    · unfold mayB at h
      rw [if_neg h0, if_neg e1, if_neg e2, if_neg e3, if_neg e4] at h
      cases h

theorem text_facts (i : I) (hc : checkB i = true) :
    ((i.op = 29 ∨ i.op = 30 ∨ i.op = 17 ∨ i.op = 18 ∨ i.op = 19) → i.fr.k ≠ 0 ∧ i.to.k ≠ 0) ∧ ((i.op = 22 ∨ i.op = 23) → i.fr.k = 0 ∧ i.to.k ≠ 0 ∧ isPlaceB i.to = (i.to.k != 4)) ∧ (i.sh = true → (i.op = 23 ∨ i.op = 24) ∧ i.to.k = 4 ∧ i.fr.k = 0) := by
  unfold checkB at hc
  split at hc
  · rename_i ho
    simp only [Bool.and_eq_true] at hc
    obtain ⟨_, _, _, ht, hr⟩ := hc
    have hload : ∀ op : Int, i.op = op → takesB (rowL op).f i.sz i.to i.fr = loadedB i.to i.fr → i.fr.k ≠ 0 ∧ i.to.k ≠ 0 := by
      intro op e h
      rw [e, h] at ht
      simp only [loadedB, isPlaceB, Bool.and_eq_true, Bool.or_eq_true, beq_iff_eq] at ht
      omega
    have hshift : ∀ op : Int, i.op = op → takesB (rowL op).f i.sz i.to i.fr = shiftedB i.sz i.to i.fr → i.fr.k ≠ 0 ∧ i.to.k ≠ 0 := by
      intro op e h
      rw [e, h] at ht
      simp only [shiftedB, isPlaceB, Bool.and_eq_true, Bool.or_eq_true, beq_iff_eq] at ht
      omega
    have hcall : ∀ op : Int, i.op = op → takesB (rowL op).f i.sz i.to i.fr = calledB i.to i.fr → i.fr.k = 0 ∧ i.to.k ≠ 0 ∧ isPlaceB i.to = (i.to.k != 4) := by
      intro op e h
      rw [e, h] at ht
      simp only [calledB, aimedB, singleB, isPlaceB, Bool.and_eq_true, Bool.or_eq_true, beq_iff_eq] at ht
      refine ⟨by omega, by omega, ?_⟩
      unfold isPlaceB
      rw [Bool.eq_iff_iff]
      simp only [Bool.or_eq_true, beq_iff_eq, bne_iff_ne, ne_eq]
      omega
    refine ⟨?_, ?_, ?_⟩
    · rintro (e | e | e | e | e)
      · exact hload 29 e rfl
      · exact hload 30 e rfl
      · exact hshift 17 e rfl
      · exact hshift 18 e rfl
      · exact hshift 19 e rfl
    · rintro (e | e)
      · exact hcall 22 e rfl
      · exact hcall 23 e rfl
    · intro hs
      unfold reachB at hr
      rw [hs] at hr
      simp only [Bool.not_true, Bool.false_or, Bool.and_eq_true, beq_iff_eq] at hr
      have hf := (row_flag i.op ho.1 ho.2).2
      rw [hr.1.1] at hf
      have hop : i.op = 23 ∨ i.op = 24 := by
        have := hf.symm
        simpa using this
      refine ⟨hop, hr.1.2, ?_⟩
      rcases hop with e | e
      · exact (hcall 23 e rfl).1
      · rw [e] at ht
        have h : takesB (rowL 24).f i.sz i.to i.fr = aimedB i.to i.fr := rfl
        rw [h] at ht
        simp only [aimedB, Bool.and_eq_true, beq_iff_eq] at ht
        exact ht.2
  · cases hc

theorem refText_no (i : I) (w : World) (hn : NB i) (hc : checkB i = false) :
    Calls Tryd.prog 10 #[i.val] w fun e w' => e = .returned (.tuple #[.string ⟨#[]⟩, .int .i64 30]) ∧ Below w.heap.size w w' := by
  have C0 : Hid (∀ v, Calls Tryd.prog 13 #[i.val] v fun e w' => e = .returned (.int .i64 30) ∧ Below v.heap.size v w') := ⟨fun v => by have := refCheck_any i v hn; rw [check_same, hc] at this; exact this⟩
  have L0 : Hid (∀ v, IA v w.heap.size i → (loadVar 25 ⟨w.heap.size, 0, none⟩).run Tryd.prog v = .ok i.val v) := ⟨fun v h => h.whole⟩
  unfold I.val at *
  clear hn hc
  go_enter Tryd.func10, Tryd.ntmps10
  go_wp2_with (first
    | (refine wpList_load_of (t := 25) rfl (by kernel_rfl) (by kernel_rfl) (L0.out _ (IA.new w i 25)) ?_)
    | (go_at_call 13; refine (C0.out _).mono ?_; rintro e w1 ⟨rfl, hb1⟩; have B1 : Hid (Below w.heap.size w w1) := ⟨bel_trans (bel_alloc (Below.refl _ _) _) hb1⟩; clear hb1))
  go_ret2
  exact ⟨rfl, B1.out⟩

theorem none_k (o : O) (h : mayB o = true) : noneB o = (o.k == 0) := by rw [none_same, h]; simp

theorem refText_yes (i : I) (w : World) (hn : NB i) (h : I64 i) (hc : checkB i = true) :
    Calls Tryd.prog 10 #[i.val] w fun e w' => e = .returned (.tuple #[.string (textV i), .int .i64 0]) ∧ Below w.heap.size w w' := by
  obtain ⟨hmt, hmf⟩ := check_may hc
  obtain ⟨fa, fb, fs⟩ := text_facts i hc
  have C0 : Hid (∀ v, Calls Tryd.prog 13 #[i.val] v fun e w' => e = .returned (.int .i64 0) ∧ Below v.heap.size v w') := ⟨fun v => by have := refCheck_any i v hn; rw [check_same, hc] at this; exact this⟩
  have C1 := hid (fun v => refName_all i.op i.sz i.cd v)
  have CF := hid (fun v => refNone_any i.fr v)
  have CT := hid (fun v => refNone_any i.to v)
  rw [none_k _ hmf] at CF
  rw [none_k _ hmt] at CT
  have z1 := nameV_size i.op i.sz i.cd
  have z2 : ∀ z, (opdV i.fr z).size ≤ 400 := fun z => opdV_size i.fr z (tok_of hmf h.fn h.fs)
  have z3 := opdV_size i.to i.sz (tok_of hmt h.tn h.ts)
  have ef : empB (fromV i) = (i.fr.k == 0) := opd_emp _ _ hmf h.fn h.fs
  have et0 : empB (opdV i.to i.sz) = (i.to.k == 0) := opd_emp _ _ hmt h.tn h.ts
  have et1 : empB (⟨#[42]⟩ ++ opdV i.to i.sz) = false := by
    have k : (⟨#[42]⟩ : ByteArray).size = 1 := rfl
    rw [emp_dec, decide_eq_false_iff_not, ByteArray.size_append]; omega
  have OF := hid (fun z (hk : i.fr.k ≠ 0) v => refOperand_any i.fr z v hmf hk h.fn h.fs)
  have OT := hid (fun (hk : i.to.k ≠ 0) v => refOperand_any i.to i.sz v hmt hk h.tn h.ts)
  by_cases ha : i.op = 29 ∨ i.op = 30 ∨ i.op = 17 ∨ i.op = 18 ∨ i.op = 19
  · obtain ⟨k1, k2⟩ := fa ha
    have hsh : i.sh = false := by
      cases e : i.sh
      · rfl
      · have := (fs e).1; omega
    have b1 : (i.fr.k == 0) = false := by simp [k1]
    have b2 : (i.to.k == 0) = false := by simp [k2]
    rw [b1] at CF ef
    rw [b2] at CT et0
    have hby : byteOp i.op = true := by
      unfold byteOp
      simp only [Bool.or_eq_true, beq_iff_eq]
      exact ha
    refine refText_a i (nameV i.op i.sz i.cd) (opdV i.fr 1) (opdV i.to i.sz) _ ⟨z1, z2 1, z3⟩ ha ⟨hsh⟩ C0 C1 CF CT ⟨fun v => OF.out 1 k1 v⟩ ⟨fun v => OT.out k2 v⟩ ⟨?_⟩ w
    have hto : toV i = opdV i.to i.sz := by
      unfold toV
      rw [if_neg]
      simp only [Bool.and_eq_true, Bool.or_eq_true, beq_iff_eq]
      omega
    have hfr : fromV i = opdV i.fr 1 := by unfold fromV; rw [hby, if_pos rfl]
    unfold textV joinV headV
    rw [ef, hto, et0, hsh, hfr, if_neg (by simp), if_neg (by simp), if_neg (by simp)]
    simp only [ByteArray.append_assoc]
  · have hby : byteOp i.op = false := by
      unfold byteOp
      simp only [Bool.or_eq_false_iff, beq_eq_false_iff_ne]
      omega
    have hfr : fromV i = opdV i.fr i.sz := by unfold fromV; rw [hby, if_neg (by simp)]
    by_cases hb : i.op = 22 ∨ i.op = 23
    · obtain ⟨k1, k2, k3⟩ := fb hb
      have b1 : (i.fr.k == 0) = true := by simp [k1]
      have b2 : (i.to.k == 0) = false := by simp [k2]
      rw [b1] at CF ef
      rw [b2] at CT et0
      have hop : (i.op == 22 || i.op == 23) = true := by
        simp only [Bool.or_eq_true, beq_iff_eq]; exact hb
      have htq : toV i = if (i.to.k != 4) then ⟨#[42]⟩ ++ opdV i.to i.sz else opdV i.to i.sz := by
        unfold toV; rw [hop, k3, Bool.true_and]
      cases hsh : i.sh
      · refine refText_b i (nameV i.op i.sz i.cd) (opdV i.fr i.sz) (opdV i.to i.sz) _ ⟨z1, z2 _, z3⟩ (i.to.k != 4) ⟨hsh⟩ rfl hb C0 C1 CF CT ⟨fun v => OT.out k2 v⟩ ⟨?_⟩ w
        cases hq : (i.to.k != 4)
        · rw [hq, if_neg (by simp)] at htq
          unfold textV joinV headV
          rw [ef, htq, et0, hsh, if_pos rfl, if_neg (by simp), if_neg (by simp), if_neg (by simp)]
          simp only [ByteArray.append_assoc]
        · rw [hq, if_pos rfl] at htq
          unfold textV joinV headV
          rw [ef, htq, et1, hsh, if_pos rfl, if_neg (by simp), if_neg (by simp), if_pos rfl]
          simp only [ByteArray.append_assoc]
      · obtain ⟨h1, h2, h3⟩ := fs hsh
        have hq : (i.to.k != 4) = false := by simp [h2]
        refine refText_b2 i (nameV i.op i.sz i.cd) (opdV i.fr i.sz) (opdV i.to i.sz) _ ⟨z1, z2 _, z3⟩ ⟨hsh⟩ hq (by simp; omega) (by simp; omega) C0 C1 CF CT ⟨fun v => OT.out k2 v⟩ ⟨?_⟩ w
        rw [hq, if_neg (by simp)] at htq
        unfold textV joinV headV
        rw [ef, htq, et0, hsh, if_pos rfl, if_pos rfl, if_neg (by simp)]
        simp only [ByteArray.append_assoc]
    · have hto : toV i = opdV i.to i.sz := by
        unfold toV
        rw [if_neg]
        simp only [Bool.and_eq_true, Bool.or_eq_true, beq_iff_eq]
        omega
      have a29 : (i.op == 29) = false := by simp; omega
      have a30 : (i.op == 30) = false := by simp; omega
      have a17 : (i.op == 17) = false := by simp; omega
      have a18 : (i.op == 18) = false := by simp; omega
      have a19 : (i.op == 19) = false := by simp; omega
      have a22 : (i.op == 22) = false := by simp; omega
      have a23 : (i.op == 23) = false := by simp; omega
      cases hsh : i.sh
      · cases b1 : (i.fr.k == 0) <;> cases b2 : (i.to.k == 0)
        all_goals
          rw [b1] at CF ef
          rw [b2] at CT et0
        · refine refText_c0 i (nameV i.op i.sz i.cd) (opdV i.fr i.sz) (opdV i.to i.sz) _ ⟨z1, z2 _, z3⟩ ⟨hsh⟩ a29 a30 a17 a18 a19 a22 a23 C0 C1 CF CT ⟨fun v => OF.out i.sz (by simpa using b1) v⟩ ⟨fun v => OT.out (by simpa using b2) v⟩ ⟨?_⟩ w
          unfold textV joinV headV
          rw [ef, hto, et0, hfr, hsh, if_neg (by simp), if_neg (by simp), if_neg (by simp)]
          simp only [ByteArray.append_assoc]
        · refine refText_c1 i (nameV i.op i.sz i.cd) (opdV i.fr i.sz) (opdV i.to i.sz) _ ⟨z1, z2 _, z3⟩ ⟨hsh⟩ a29 a30 a17 a18 a19 a22 a23 C0 C1 CF CT ⟨fun v => OF.out i.sz (by simpa using b1) v⟩ ⟨?_⟩ w
          unfold textV joinV headV
          rw [ef, hto, et0, hfr, hsh, if_neg (by simp), if_pos rfl, if_neg (by simp)]
          simp only [ByteArray.append_assoc]
        · refine refText_c2 i (nameV i.op i.sz i.cd) (opdV i.fr i.sz) (opdV i.to i.sz) _ ⟨z1, z2 _, z3⟩ ⟨hsh⟩ a29 a30 a17 a18 a19 a22 a23 C0 C1 CF CT ⟨fun v => OT.out (by simpa using b2) v⟩ ⟨?_⟩ w
          unfold textV joinV headV
          rw [ef, hto, et0, hsh, if_pos rfl, if_neg (by simp), if_neg (by simp)]
          simp only [ByteArray.append_assoc]
        · refine refText_c3 i (nameV i.op i.sz i.cd) (opdV i.fr i.sz) (opdV i.to i.sz) _ ⟨z1, z2 _, z3⟩ ⟨hsh⟩ a29 a30 a17 a18 a19 a22 a23 C0 C1 CF CT ⟨?_⟩ w
          unfold textV joinV headV
          rw [ef, hto, et0, hsh, if_pos rfl, if_pos rfl, if_neg (by simp)]
      · obtain ⟨h1, h2, h3⟩ := fs hsh
        have b1 : (i.fr.k == 0) = true := by simp [h3]
        have b2 : (i.to.k == 0) = false := by simp [h2]
        rw [b1] at CF ef
        rw [b2] at CT et0
        refine refText_d i (nameV i.op i.sz i.cd) (opdV i.fr i.sz) (opdV i.to i.sz) _ ⟨z1, z2 _, z3⟩ ⟨hsh⟩ a29 a30 a17 a18 a19 a22 a23 C0 C1 CF CT ⟨fun v => OT.out (by omega) v⟩ ⟨?_⟩ w
        unfold textV joinV headV
        rw [ef, hto, et0, hsh, if_pos rfl, if_pos rfl, if_neg (by simp)]
        simp only [ByteArray.append_assoc]

theorem refText_any (i : I) (w : World) (hn : NB i) (h : I64 i) :
    Calls Tryd.prog 10 #[i.val] w fun e w' => e = .returned (.tuple #[.string (if checkB i then textV i else ⟨#[]⟩), .int .i64 (errV (checkB i))]) ∧ Below w.heap.size w w' := by
  cases hc : checkB i
  · exact refText_no i w hn hc
  · exact refText_yes i w hn h hc
end Go.Proofs.YtdgejingoamfeaaDoor
