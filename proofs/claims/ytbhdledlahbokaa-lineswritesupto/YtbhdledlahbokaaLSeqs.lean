/- seqsOf. -/
import Derived.Test.YtbhdledlahbokaaLGathX
namespace Go.Proofs.Ytbhdledlahbokaa
open Go.ChangeShapes Go.WideShapes Go.ChangeAt Go.RowKit Go.Conc
set_option linter.unusedVariables false
set_option linter.unusedSimpArgs false

theorem celS_at : ∀ (ps : List (Sq × Value)) (i j : Nat), i < ps.length → j < 3 → (celS ps)[i * 3 + j]? = ([.int .i64 (ps.getD i (Sq.zero, undef)).1.st, .int .i64 (ps.getD i (Sq.zero, undef)).1.sz, (ps.getD i (Sq.zero, undef)).2] : List Value)[j]?
  | [], i, j, hi, _ => by simp at hi
  | r :: l, 0, j, _, hj => by
    show (_ :: _ :: _ :: celS l)[0 * 3 + j]? = _
    rcases j with _ | _ | _ | j <;> first | rfl | omega
  | r :: l, i + 1, j, hi, hj => by
    have ih := celS_at l i j (by simpa using hi) hj
    show (_ :: _ :: _ :: celS l)[(i + 1) * 3 + j]? = _
    rw [show (i + 1) * 3 + j = i * 3 + j + 3 by omega]
    simpa using ih
theorem TS.sqs {w : World} {b : Nat} {v : Value} {l : List Sq} (h : TS w b v l) : ∃ sa sc, v = .slice sa l.length sc ∧ Sqs w sa l := by
  obtain ⟨ps, h1, h2, h3⟩ := h.row
  have hpl : ps.length = l.length := by rw [← h1]; simp
  rcases h2.2 with ⟨rfl, e⟩ | ⟨g, cap, cur, rfl, e1, e2, _⟩
  · exact ⟨none, 0, by rw [e], .inl e⟩
  · refine ⟨_, cap, rfl, .inr ⟨g, 0, rfl, fun i hi => ?_⟩⟩
    have hip : i < ps.length := by omega
    have hc : ∀ j, j < 3 → ∀ x, ([.int .i64 (ps.getD i (Sq.zero, undef)).1.st, .int .i64 (ps.getD i (Sq.zero, undef)).1.sz, (ps.getD i (Sq.zero, undef)).2] : List Value)[j]? = some x → w.cell? ⟨g, 0 + i * 3 + j, none⟩ = some x := by
      intro j hj x hx
      have := World.ownsRow.cells (g := g) h2 rfl (i * 3 + j) x (by rw [celS_at ps i j hip hj]; exact hx)
      rwa [caddr_add, ← Nat.add_assoc] at this
    have hg : (ps.getD i (Sq.zero, undef)).1 = l.getD i Sq.zero := by
      rw [← h1]; simp [hip]
    obtain ⟨ra, rc, hv, hl⟩ := (h3 (ps.getD i (Sq.zero, undef)) (by simp [hip])).lrs
    have k0 := hc 0 (by omega) _ rfl
    have k1 := hc 1 (by omega) _ rfl
    have k2 := hc 2 (by omega) _ rfl
    rw [hv] at k2
    rw [hg] at k0 k1 k2 hl
    exact ⟨ra, rc, k0, k1, k2, hl⟩

theorem OwnRL.low {w : World} {b b' : Nat} {v : Value} {l : List Lr} (h : OwnRL w b v l) (hb : b' ≤ b) : OwnRL w b' v l := by
  refine ⟨h.1, ?_⟩
  rcases h.2 with h | ⟨g, cap, cur, h1, h2, h3⟩
  · exact .inl h
  · exact .inr ⟨g, cap, cur, h1, by omega, h3⟩
theorem TS.low {w : World} {b b' : Nat} {v : Value} {l : List Sq} (h : TS w b v l) (hb : b' ≤ b) : TS w b' v l := by
  obtain ⟨ps, h1, h2, h3⟩ := h.row
  refine ⟨ps, h1, ⟨h2.1, ?_⟩, fun p hp => (h3 p hp).low hb⟩
  rcases h2.2 with hv | ⟨g', c', cur, hv, h2, h3⟩
  · exact .inl hv
  · exact .inr ⟨g', c', cur, hv, by omega, h3⟩
theorem TS.sq {w : World} {b n c : Nat} {sa : Option Addr} {l : List Sq} (h : TS w b (.slice sa n c) l) : Sqs w sa l := by
  obtain ⟨sa', sc', e, hq⟩ := h.sqs
  injection e with e1 _ _
  rw [e1]
  exact hq
set_option maxHeartbeats 1000000 in
theorem seqsOf_ok (l : List Sq) (n : Int) (hn : n ≤ 255) (hall : l.all (seqB n) = true) (hl : l.length ≤ 64) (g off len cp : Nat) (bs : Nat → Int) (w : World) (hr : Row w (some ⟨g, off, none⟩) len bs) (hbs : ∀ i, 0 ≤ bs i ∧ bs i < 256) (hlen : (cmdR l).length = len) (hsh : len ≤ 1048576) (hfit : len ≤ cp) (htop : cp ≤ 9223372036854775807) (hat : At bs 0 (cmdR l)) :
    Calls Try.prog 35 #[.slice (some ⟨g, off, none⟩) len cp] w fun e w' => ∃ sa sc, e = .returned (.tuple #[.slice sa l.length sc, .bool true]) ∧ TS w' w.heap.size (.slice sa l.length sc) l ∧ Below w.heap.size w w' := by
  have HN : Hid _ := ⟨newState_ok g off len cp hsh w⟩
  have HR : Hid (∀ w1, SA (w.heap.size + 1, w.heap.size) w1 w1 (w.heap.size + 1) w.heap.size (.slice (some ⟨g, off, none⟩) len cp) Ms.new (min len 256064) → Below w.heap.size w w1 → Calls Try.prog 52 #[.pointer (some ⟨w.heap.size + 1, 0, none⟩)] w1 fun e w' => e = .returned (.bool true) ∧ Ran (w.heap.size + 1, w.heap.size) w1 w' (w.heap.size + 1) w.heap.size (.slice (some ⟨g, off, none⟩) len cp) (evsOf l) (min len 256064)) := ⟨fun w1 h1 hb => by
    refine run_ok l n hn hall hl h1 (bs := bs) ⟨fun W hW => ?_, hbs, hsh, hfit, htop⟩ hat hlen rfl ⟨rfl, rfl, rfl, rfl⟩
    rcases hr with hr | ⟨b, o, e, hc⟩
    · exact .inl hr
    · refine .inr ⟨b, o, e, fun i hi => ?_⟩
      have h2 := hc i hi
      have hlt := World.block_lt_of_cell? w ⟨b, o + i, none⟩ h2
      have h3 : w1.cell? ⟨b, o + i, none⟩ = some (.int .u8 (bs i)) := up_belL h2 hb
      have hlt1 := World.block_lt_of_cell? w1 ⟨b, o + i, none⟩ h3
      rw [← h3]
      exact World.cell?_of_block (a := ⟨b, o + i, none⟩) (hW.block b hlt1 (by dsimp only at hlt ⊢; omega) (by dsimp only at hlt ⊢; omega))⟩
  have HEv : Hid ((evsOf l).length ≤ 1000000) := ⟨by have := (evs_len hall).1; omega⟩
  have HGa : Hid (∀ w2 s, w2.heap[w.heap.size]? = some (.chan (min len 256064) ((evsOf l).map evV).toArray true s 0 false) → Calls Try.prog 53 #[.chan (some w.heap.size)] w2 fun e w' => ∃ v, e = .returned v ∧ TS w' w2.heap.size v l ∧ Fr (w.heap.size, w.heap.size) w2 w') := ⟨fun w2 s h => gathered_ok l HEv.out w.heap.size (min len 256064) s w2 h⟩
  clear hr hbs hlen hsh hfit htop hat hall hl hn HEv
  generalize min len 256064 = cap at *
  go_enter Try.func35, Try.ntmps35
  go_upto_region 4 with (first
    | (go_at_call 51; (with_reducible refine HN.out.mono ?_); rintro e w1 ⟨he, hs1, hb1⟩; subst he; have H1 : Hid _ := ⟨hs1⟩; have HB1 : Hid _ := ⟨hb1⟩; clear hs1 hb1)
    | (go_at_call 52; (with_reducible refine (HR.out _ H1.out HB1.out).mono ?_); rintro e w2 ⟨he, hs2⟩; subst he; have H2 : Hid _ := ⟨hs2⟩; clear hs2))
  have d10 := H2.out.told
  obtain ⟨s, hch⟩ := H2.out.ch
  have HGb : Hid _ := ⟨HGa.out w2 s hch⟩
  clear hch HGa HR HN
  go_wp2_with (go_at_call 53; (with_reducible refine HGb.out.mono ?_); rintro e w3 ⟨v3, he, ht3, hf3⟩; subst he; have H3 : Hid _ := ⟨ht3⟩; have HF3 : Hid _ := ⟨hf3⟩; clear ht3 hf3)
  obtain ⟨sa, sc, hv, hsq⟩ := H3.out.sqs
  subst hv
  go_ret2
  refine ⟨sa, sc, rfl, H3.out.low (Nat.le_trans HB1.out.size H2.out.bel.size), ⟨HF3.out.os.trans (H2.out.bel.os.trans HB1.out.os), HF3.out.tape.trans (H2.out.bel.tape.trans HB1.out.tape), HF3.out.output.trans (H2.out.bel.output.trans HB1.out.output), Nat.le_trans HB1.out.size (Nat.le_trans H2.out.bel.size HF3.out.size), fun k hk => ?_⟩⟩
  have hk1 : k < w1.heap.size := Nat.lt_of_lt_of_le hk HB1.out.size
  have hk2 : k < w2.heap.size := Nat.lt_of_lt_of_le hk1 H2.out.bel.size
  rw [HF3.out.block k hk2 (by dsimp only; omega) (by dsimp only; omega), H2.out.bel.block k hk1 (by dsimp only; omega) (by dsimp only; omega)]
  exact HB1.out.block k hk
end Go.Proofs.Ytbhdledlahbokaa
