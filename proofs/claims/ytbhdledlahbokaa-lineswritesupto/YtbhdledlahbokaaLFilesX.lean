/- filesOf. filesOf: the walk. -/
import Derived.Test.YtbhdledlahbokaaLText
namespace Go.Proofs.Ytbhdledlahbokaa
open Go.ChangeShapes Go.WideShapes Go.ChangeAt Go.RowKit Go.Conc
set_option linter.unusedVariables false
set_option linter.unusedSimpArgs false

/-- Names of the call's own. -/
def OwnN (w : World) (base : Nat) (v : Value) (l : List ByteArray) : Prop := w.ownsRow base 9 1 v l.length (l.map Value.string)
theorem OwnN.nil (w : World) (base : Nat) : OwnN w base (.slice none 0 0) [] := World.ownsRow_nil _ _ _ _
theorem OwnN.bel {w w' : World} {base : Nat} {v : Value} {l : List ByteArray} (h : OwnN w base v l) (hb : Below w.heap.size w w') : OwnN w' base v l :=
  World.ownsRow.kept (row := none) h ⟨hb.os, hb.tape, hb.output, hb.size, fun j hj _ => hb.block j hj⟩ (by cases hv : v.ownBlock <;> simp)
theorem OwnN.strs {w : World} {base : Nat} {v : Value} {l : List ByteArray} (h : OwnN w base v l) : ∃ ao c, v = .slice ao l.length c ∧ Strs w ao l := by
  rcases h.2 with ⟨rfl, e⟩ | ⟨g, cap, cur, rfl, h1, h2, _⟩
  · exact ⟨none, 0, by rw [e], .inl e⟩
  · refine ⟨_, cap, rfl, .inr ⟨g, 0, rfl, fun i hi => ?_⟩⟩
    have := World.ownsRow.cells (g := g) h rfl i (.string (l.getD i ByteArray.empty)) (by simp [hi])
    rwa [caddr_add] at this
theorem info9 : (Try.prog.info? 9).map (fun i => (i.zero, i.size, i.bytes)) = some (some (.string ⟨#[]⟩), 1, 16) := by kernel_rfl
/-- A name behind names. -/
theorem append_name {ops : Array Oper} {rest : List Oper} {o : Oper} {a : Act} {Q : Exit → Act → World → Prop} (w : World) (hgd : o.guard = none) (s x : Operand)
    (ho : o.op = .call { callee := .builtin .append, args := #[s, x], argTypes := #[22, 22] })
    (base : Nat) (v : Value) (l : List ByteArray) (hs : a.eval s = v) (hown : OwnN w base v l) (q : Nat) (y : ByteArray) (hx : a.eval x = .slice (some ⟨q, 0, none⟩) 1 1) (hb : Bk w q 9 #[.string y])
    (hn : l.length ≤ 8796093022000) (hbase : base ≤ w.heap.size)
    (h : ∀ v' w', OwnN w' base v' (l ++ [y]) → w.grownBy w' v.ownBlock → wpList Try.prog ops Q rest (a.put o.dst v') w') :
    wpList Try.prog ops Q (o :: rest) a w := by
  obtain ⟨i0, hi, hz0, hz1, hz2⟩ := info_parts info9
  refine wpList_append_own_at w hgd s x 22 ho base 9 i0 _ 1 16 Try.underlying22 hi hz0 hz1 hz2 rfl (by decide) _ l.length _ hs hown ⟨q, 0, none⟩ 1 1 [.string y] hx (by simp) ?_ ?_ (by unfold maxLen; omega) (by omega) hbase ?_
  · intro j u hj
    rw [caddr_add]
    exact hb.cell _ (by simpa using hj)
  · intro u hu
    simp at hu
    subst hu
    rfl
  · intro v' w' hown' hgrow hnn hbk
    refine h v' w' ?_ hgrow
    unfold OwnN
    simpa using hown'
/-! Plainly: where the names lie. -/
def nameAt (l : List ByteArray) (k : Nat) : Nat := 38 + (ulB (l.length : Int)).length + (namesR (l.take k)).length
theorem bts_bytes (s : ByteArray) : ∀ x ∈ bts s, 0 ≤ x ∧ x < 256 := by
  intro x hx
  unfold bts at hx
  obtain ⟨c, _, rfl⟩ := List.mem_map.1 hx
  have := c.toNat_lt
  omega
theorem bts_back (s : ByteArray) : strOfNums (bts s) = s := by
  obtain ⟨⟨l⟩⟩ := s
  unfold strOfNums bts
  congr 1
  simp only [List.map_map]
  congr 1
  have : ∀ l : List UInt8, l.map ((fun n : Int => UInt8.ofNat n.toNat) ∘ fun c => (c.toNat : Int)) = l := by
    intro l
    induction l with
    | nil => rfl
    | cons c l ih => rw [List.map_cons, ih]; simp
  exact this l
theorem bts_nz {s : ByteArray} (h : fileB s = true) : ∀ i, i < (bts s).length → (bts s).getD i 0 ≠ 0 := by
  unfold fileB zeroB at h
  simp only [Bool.and_eq_true, Bool.not_eq_true', List.any_eq_false] at h
  intro i hi e
  have hm : (bts s).getD i 0 ∈ bts s := by simp [hi]
  unfold bts at hm
  obtain ⟨c, hc, e2⟩ := List.mem_map.1 hm
  have := h.2 c hc
  unfold bts at e
  rw [e] at e2
  have hc0 : c = 0 := by
    apply UInt8.toNat.inj
    have h0 : ((0 : UInt8).toNat : Int) = 0 := rfl
    omega
  simp [hc0] at this
/-- Bytes at a place, as a list. -/
theorem lst_of_at {bs : Nat → Int} {a : Nat} {l : List Int} (h : At bs a l) : lst (fun i => bs (a + i)) l.length = l := by
  apply List.ext_getElem
  · rw [lst_len]
  · intro i h1 h2
    have := h i h2
    simp [lst, this, h2]
theorem head_places {p : Pg} {bs : Nat → Int} (hat : At bs 0 (unitR p)) : At bs 38 (ulB (p.files.length : Int)) ∧ At bs (38 + (ulB (p.files.length : Int)).length) (namesR p.files) ∧ (headR p.files ((cmdR p.seqs).length : Int)).length = 38 + (ulB (p.files.length : Int)).length + (namesR p.files).length ∧ At bs (headR p.files ((cmdR p.seqs).length : Int)).length (cmdR p.seqs) := by
  have h1 := At.app (l := headR p.files ((cmdR p.seqs).length : Int)) hat
  have hl : (headR p.files ((cmdR p.seqs).length : Int)).length = 38 + (ulB (p.files.length : Int)).length + (namesR p.files).length := by
    rw [headR_len]; unfold behindR; simp only [List.length_append]; have : always.length = 26 := rfl; omega
  have h2 := h1.1
  unfold headR at h2
  have h3 := (At.app (At.app (At.app h2).2).2).2
  simp only [pl_len, List.length_cons, List.length_nil] at h3
  unfold behindR at h3
  have h4 := (At.app h3).2
  have h5 := At.app h4
  have ha : always.length = 26 := rfl
  rw [ha] at h5
  refine ⟨h5.1, h5.2, hl, ?_⟩
  have := h1.2
  rwa [Nat.zero_add] at this

theorem name_at {l : List ByteArray} (hall : l.all fileB = true) {bs : Nat → Int} {a : Nat} (hat : At bs a (namesR l)) {k : Nat} (hk : k < l.length) :
    bs (a + (namesR (l.take k)).length + (l.getD k ByteArray.empty).size) = 0 ∧ (∀ i, i < (l.getD k ByteArray.empty).size → bs (a + (namesR (l.take k)).length + i) ≠ 0) ∧ strOfNums (lst (fun i => bs (a + (namesR (l.take k)).length + i)) (l.getD k ByteArray.empty).size) = l.getD k ByteArray.empty ∧ (namesR (l.take k)).length + (l.getD k ByteArray.empty).size + 1 ≤ (namesR l).length ∧ (namesR (l.take (k + 1))).length = (namesR (l.take k)).length + (l.getD k ByteArray.empty).size + 1 := by
  have h := flat_at (fun s => bts s ++ [0]) l ByteArray.empty hat hk
  have hn := namesR_at l k hk
  have hf : fileB (l.getD k ByteArray.empty) = true := List.all_eq_true.1 hall _ (by simp [hk])
  generalize l.getD k ByteArray.empty = s at *
  have h1 := At.app h.1
  have e1 : ((l.take k).flatMap fun s => bts s ++ [0]).length = (namesR (l.take k)).length := rfl
  have e2 : (l.flatMap fun s => bts s ++ [0]).length = (namesR l).length := rfl
  rw [e1] at h1 h
  rw [e2] at h
  rw [bts_len] at h1
  have h2 := h.2
  simp only [List.length_append, bts_len, List.length_cons, List.length_nil] at h2
  refine ⟨?_, fun i hi => ?_, ?_, by omega, ?_⟩
  · have := h1.2 0 (by simp); simpa using this
  · rw [h1.1 i (by rw [bts_len]; exact hi)]
    exact bts_nz hf i (by rw [bts_len]; exact hi)
  · have := lst_of_at h1.1
    rw [bts_len] at this
    rw [this, bts_back]
  · rw [hn]; simp [bts_len]; omega

set_option maxRecDepth 20000 in
set_option maxHeartbeats 4000000 in
theorem filesOf_ok (p : Pg) (hck : checkB p = true) (g off len cp : Nat) (bs : Nat → Int) (w : World) (hr : ∀ i, i < len → w.cell? ⟨g, off + i, none⟩ = some (.int .u8 (bs i))) (hbs : ∀ i, 0 ≤ bs i ∧ bs i < 256) (hlen : (unitR p).length = len) (hsh : len ≤ 1048576) (hfit : len ≤ cp) (hat : At bs 0 (unitR p)) :
    Calls Try.prog 34 #[.slice (some ⟨g, off, none⟩) len cp] w fun e w' => ∃ v, e = .returned (.tuple #[v, .int .i64 ((headR p.files ((cmdR p.seqs).length : Int)).length : Int), .bool true]) ∧ OwnN w' w.heap.size v p.files ∧ Below w.heap.size w w' := by
  have hF : filesB p.files = true := by unfold checkB at hck; simp only [Bool.and_eq_true] at hck; exact hck.1
  have hF2 := hF
  unfold filesB at hF2
  simp only [Bool.and_eq_true, decide_eq_true_eq] at hF2
  obtain ⟨hfl, hfa⟩ := hF2
  obtain ⟨p1, p2, p3, p4⟩ := head_places hat
  have hul : (unitR p).length = (headR p.files ((cmdR p.seqs).length : Int)).length + (cmdR p.seqs).length := by unfold unitR; rw [List.length_append]
  have HRow : Hid (∀ W, Below w.heap.size w W → ∀ i, i < len → W.cell? ⟨g, off + i, none⟩ = some (.int .u8 (bs i))) := ⟨fun W hW i hi => up_belL (hr i hi) hW⟩
  have HRd : Hid (Calls Try.prog 48 #[.slice (some ⟨g, off, none⟩) len cp, .int .i64 38] w fun e w' => e = .returned (.tuple #[.int .i64 (p.files.length : Int), .int .i64 (nameAt p.files 0 : Int), .int .i64 0]) ∧ Below w.heap.size w w') := ⟨by
    have hu : (p.files.length : Int) % 18446744073709551616 = (p.files.length : Int) := by omega
    have e0 : ulB (p.files.length : Int) = ul p.files.length := by unfold ulB; rw [hu]; simp
    rw [e0] at p1 p3
    obtain ⟨h1, h2, h3⟩ := ul_read p.files.length bs 38 p1
    have hN : Num len bs 38 (ul p.files.length).length := ⟨ul_len_pos _, ul_len10 _ (by omega), by omega, h2, h3⟩
    have R := readU_num (some ⟨g, off, none⟩) len cp 38 (ul p.files.length).length bs w (.inr ⟨g, off, rfl, hr⟩) hbs (by omega) hN (fun h10 => ul_ten p.files.length (by omega) bs 38 p1 h10)
    have hv : wrap64 (uacc bs 38 (ul p.files.length).length) = (p.files.length : Int) := by rw [h1]; unfold wrap64; omega
    rw [hv] at R
    have e3 : (nameAt p.files 0 : Int) = ((38 : Nat) : Int) + ((ul p.files.length).length : Int) := by unfold nameAt; rw [e0]; simp [namesR]
    rw [e3]
    exact R⟩
  have HTx : Hid (∀ k, k < p.files.length → ∀ W, Below w.heap.size w W → Calls Try.prog 49 #[.slice (some ⟨g, off, none⟩) len cp, .int .i64 (nameAt p.files k : Int)] W fun e w' => e = .returned (.tuple #[.string (p.files.getD k ByteArray.empty), .int .i64 (nameAt p.files (k + 1) : Int), .int .i64 0]) ∧ w' = W) := ⟨fun k hk W hW => by
    obtain ⟨n1, n2, n3, n4, n5⟩ := name_at hfa p2 hk
    have hA : nameAt p.files k = 38 + (ulB (p.files.length : Int)).length + (namesR (p.files.take k)).length := rfl
    have T := text_ok g off len cp (nameAt p.files k) (p.files.getD k ByteArray.empty).size bs W hbs hsh hfit (HRow.out W hW) (by rw [hA]; omega) n1 n2
    rw [show strOfNums (lst (fun i => bs (nameAt p.files k + i)) (p.files.getD k ByteArray.empty).size) = p.files.getD k ByteArray.empty from n3] at T
    have e4 : nameAt p.files (k + 1) = nameAt p.files k + (p.files.getD k ByteArray.empty).size + 1 := by unfold nameAt; rw [n5]; omega
    rw [e4]
    exact T⟩
  have HI : Hid _ := ⟨within_any (p.files.length : Int) 0 255⟩
  have hin : inB (p.files.length : Int) 0 255 = true := by unfold inB; simp; omega
  rw [hin] at HI
  have HEnd : Hid ((headR p.files ((cmdR p.seqs).length : Int)).length = nameAt p.files p.files.length) := ⟨by rw [p3]; unfold nameAt; rw [List.take_of_length_le (Nat.le_refl _)]⟩
  have HFl : Hid _ := ⟨hfl⟩
  have HTail : Hid (∀ W fa fc, Below w.heap.size w W → Strs W fa p.files → Calls Try.prog 22 #[.slice fa p.files.length fc, .int .i64 ((cmdR p.seqs).length : Int)] W fun e w' => ∃ v, e = .returned v ∧ Own w' W.heap.size v (headR p.files ((cmdR p.seqs).length : Int)) ∧ Below W.heap.size W w') := ⟨fun W fa fc hW hS => firstPart_any fa fc p.files _ W hF (by omega) hS⟩
  have HBt : Hid (∀ W, Below w.heap.size w W → Bt W (.slice (some ⟨g, off, none⟩) (headR p.files ((cmdR p.seqs).length : Int)).length cp) (headR p.files ((cmdR p.seqs).length : Int))) := ⟨fun W hW => ⟨_, cp, rfl, .inr ⟨g, off, rfl, fun i hi => by
    rw [HRow.out W hW i (by omega)]
    have := (At.app (l := headR p.files ((cmdR p.seqs).length : Int)) hat).1 i hi
    rw [Nat.zero_add] at this
    rw [this]⟩, fun e => by cases e⟩⟩
  have hsub : (len : Int) - ((headR p.files ((cmdR p.seqs).length : Int)).length : Int) = ((cmdR p.seqs).length : Int) := by omega
  have hle : (headR p.files ((cmdR p.seqs).length : Int)).length ≤ len := by omega
  clear hr hbs hlen hat hck hF hfa p1 p2 p3 p4 hul hin HRow
  generalize (cmdR p.seqs).length = CL at *
  generalize headR p.files (CL : Int) = H at *
  go_enter Try.func34, Try.ntmps34
  go_upto_region 4 with (first
    | (go_at_call 48; (with_reducible refine HRd.out.mono ?_); rintro e w1 ⟨he, hb1⟩; subst he; have H1 : Hid _ := ⟨hb1⟩; clear hb1)
    | (go_at_call 45; (with_reducible refine (HI.out _).mono ?_); rintro e wn ⟨he, hwn⟩; subst he; subst wn))
  go_wp2
  go_loopw [24, 2, 3] (fun iv s2 s3 wr => ∃ k : Nat, k ≤ p.files.length ∧ iv = .int .i64 k ∧ s3 = .int .i64 (nameAt p.files k : Int) ∧ Hid (OwnN wr w.heap.size s2 (p.files.take k) ∧ Below w.heap.size w wr)) (fun iv _ _ _ => p.files.length - (intOf iv).toNat)
  case atStart => exact ⟨0, by omega, rfl, rfl, ⟨OwnN.nil _ _, H1.out⟩⟩
  case round =>
    obtain ⟨k, hk, rfl, rfl, HW⟩ := hrel
    by_cases hlt : k < p.files.length
    · have q1 : (k : Int) < (p.files.length : Int) := by omega
      have q0 : (0 : Int) ≤ (k : Int) := by omega
      have HT : Hid _ := ⟨HTx.out k hlt wr HW.out.2⟩
      have HN : Hid _ := ⟨take_at p.files ByteArray.empty k hlt⟩
      have HTl : Hid ((p.files.take k).length ≤ 255) := ⟨by have := HFl.out; simp; omega⟩
      generalize p.files.getD k ByteArray.empty = s at *
      generalize nameAt p.files k = A at *
      generalize hA2 : nameAt p.files (k + 1) = A2 at *
      have HKn : Hid _ := ⟨Bk.new wr #[.string s] 9⟩
      have HOn : Hid (OwnN (wr.alloc (.cells #[.string s] 9)) w.heap.size u2 (p.files.take k)) := ⟨HW.out.1.bel ((Below.refl _ _).alloc (Nat.le_refl _) _)⟩
      go_wp2_with (first
        | (go_at_call 49; (with_reducible refine HT.out.mono ?_); rintro e wn ⟨he, hwn⟩; subst he; subst wn)
        | (at_builtin; refine append_name (wr.alloc (.cells #[.string s] 9)) rfl _ _ rfl w.heap.size u2 (p.files.take k) rfl HOn.out wr.heap.size s rfl HKn.out (by have := HTl.out; omega) (by have := HW.out.2.size; simp; omega) ?_; intro v5 w5 hO5 hG5; have H5 : Hid _ := ⟨hO5⟩; have HG5 : Hid _ := ⟨hG5⟩; clear hO5 hG5))
      go_roundw
      case rel => exact ⟨k + 1, hlt, by go_num, by rw [hA2], ⟨by rw [HN.out]; exact H5.out, (HW.out.2.alloc HW.out.2.size _).trans ((Below.refl _ _).grown HG5.out (by have := HW.out.2.size; simp; omega) (own_block HOn.out))⟩⟩
      case measure => simp [intOf]; omega
    · obtain rfl : k = p.files.length := by omega
      rw [List.take_of_length_le (Nat.le_refl _)] at HW
      obtain ⟨fa, fc, hv2, hs2⟩ := HW.out.1.strs
      subst hv2
      rw [← HEnd.out]
      have eC : IntKind.i64.wrap (CL : Int) = (CL : Int) := by rw [IntKind.wrap_i64]; omega
      have HFp : Hid (Calls Try.prog 22 #[.slice fa p.files.length fc, .int .i64 (IntKind.i64.wrap (CL : Int))] wr.drew fun e w' => ∃ v, e = .returned v ∧ Own w' wr.drew.heap.size v H ∧ Below wr.drew.heap.size wr.drew w') := ⟨by rw [eC]; exact HTail.out wr.drew fa fc (HW.out.2.trans (Below.refl _ _).drew) (hs2.bel (Below.refl _ _).drew)⟩
      clear eC
      have HEq : Hid (∀ u v, Below wr.drew.heap.size wr.drew u → Own u wr.drew.heap.size v H → Calls Try.prog 50 #[.slice (some ⟨g, off, none⟩) H.length cp, v] u fun e w' => e = .returned (.bool true) ∧ w' = u) := ⟨fun u v hu hv => equal_any (HBt.out u ((HW.out.2.trans (Below.refl _ _).drew).trans (hu.mono HW.out.2.size))) hv.bt true (by simp)⟩
      have i1 : (H.length : Int) ≤ (cp : Int) := by omega
      have i2 : H.length ≤ cp := by omega
      have i3 : (0 : Int) ≤ (H.length : Int) := by omega
      have HOw : Hid _ := ⟨HW.out.1⟩
      have HBw : Hid _ := ⟨HW.out.2⟩
      clear hs2 HTx HRd HI HTail HBt HW hle hfit hsh H1 HFl hfl
      go_upto_region 11 with (fail)
      go_region_held3 (fun _ => True) (trivial)
        (first
          | (go_at_call 22; (with_reducible refine HFp.out.mono ?_); rintro e u ⟨v, rfl, hv, hu⟩; have HV : Hid _ := ⟨hv⟩; have HU : Hid _ := ⟨hu⟩; clear hv hu)
          | (go_at_call 50; (with_reducible refine (HEq.out _ _ HU.out HV.out).mono ?_); rintro e u2 ⟨rfl, hu2⟩; subst hu2))
      go_wp2
      go_ret3
      exact ⟨_, rfl, (HOw.out.bel (Below.refl _ _).drew).bel HU.out, (HBw.out.trans (Below.refl _ _).drew).trans (HU.out.mono HBw.out.size)⟩
theorem OwnN.low {w : World} {b b' : Nat} {v : Value} {l : List ByteArray} (h : OwnN w b v l) (hb : b' ≤ b) : OwnN w b' v l := by
  refine ⟨h.1, ?_⟩
  rcases h.2 with hv | ⟨g', c', cur, hv, h2, h3⟩
  · exact .inl hv
  · exact .inr ⟨g', c', cur, hv, by omega, h3⟩
theorem OwnN.ty {w : World} {base : Nat} {v : Value} {l : List ByteArray} (h : OwnN w base v l) : ∀ k, v.ownBlock = some k → base ≤ k ∧ k < w.heap.size ∧ ∃ cur, w.heap[k]? = some (.cells cur 9 (0, 0)) := by
  intro k hk
  rcases h.2 with ⟨rfl, _⟩ | ⟨g, cap, cur, rfl, h1, h2, _⟩
  · simp [Value.ownBlock] at hk
  · simp [Value.ownBlock] at hk
    subst hk
    exact ⟨h1, (Array.getElem?_eq_some_iff.1 h2).1, cur, h2⟩
theorem OwnN.far {w1 w2 : World} {base : Nat} {u : Value} {l : List ByteArray} {row : Option Nat} (h : OwnN w1 base u l) (hg : w1.grownBy w2 row) (hn : ∀ k, u.ownBlock = some k → row ≠ some k) : OwnN w2 base u l := World.ownsRow.kept h hg (by
  cases hb : u.ownBlock with
  | none => exact .inl rfl
  | some k => exact .inr fun e => hn k hb e.symm)
theorem bel_grownL {w w1 : World} {base : Nat} {row : Option Nat} (hg : w.grownBy w1 row) (hr : ∀ k, row = some k → base ≤ k) (hb : base ≤ w.heap.size) : Below base w w1 :=
  ⟨hg.os, hg.tape, hg.output, hg.size, fun k hk => hg.block k (by omega) (fun e => by have := hr k e.symm; omega)⟩
theorem Bk.grownL {w w1 : World} {b t : Nat} {cs : Array Value} {row : Option Nat} (h : Bk w b t cs) (hg : w.grownBy w1 row) (hr : row ≠ some b) : Bk w1 b t cs := h.of (hg.block b h.lt (fun e => hr e.symm))
theorem grown_set (w : World) (b : Nat) (V : Array Value) : w.grownBy (w.setRow b V) (some b) := ⟨rfl, rfl, rfl, by simp, fun k _ hk => setRow_other _ _ k _ (fun e => hk (by rw [e]))⟩
theorem Bk.ne {w : World} {b c t u : Nat} {cs ds : Array Value} {fr : Nat × Nat} (h : Bk w b t cs) (g : w.heap[c]? = some (.cells ds u fr)) (hn : t ≠ u) : b ≠ c := by
  rintro rfl
  have := h.hp.symm.trans g
  injection this with this
  injection this with _ e _
  exact hn e
theorem OwnN.st {w : World} {b n c : Nat} {fa : Option Addr} {l : List ByteArray} (h : OwnN w b (.slice fa n c) l) : Strs w fa l := by
  obtain ⟨fa', fc', e, hq⟩ := h.strs
  injection e with e1 _ _
  rw [e1]
  exact hq
end Go.Proofs.Ytbhdledlahbokaa
