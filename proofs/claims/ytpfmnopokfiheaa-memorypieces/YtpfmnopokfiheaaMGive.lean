/- The contract of give. -/
import Derived.Test.YtpfmnopokfiheaaMTake
namespace Go.Proofs.Ytpfmnopokfiheaa
open Go.ChangeShapes Go.WideShapes Go.ChangeAt Go.RowKit Go.Maps Go.Shelf
attribute [local go_sem] Oper.semAt_some
set_option linter.unusedVariables false
set_option linter.unusedSimpArgs false

/-- Bytes are put into a page, from byte fr on. -/
def wrL (L : List Pz) (k fr : Nat) (ys : List Int) : List Pz := L.map (fun p => if p.k = k then ⟨p.k, p.may, splice p.B fr ys⟩ else p)
/-- One piece: of what is left of the bytes. -/
def wst (bl : List Int) (s : List Pz × Nat) (q : Pz × Nat × Nat) : List Pz × Nat :=
  (wrL s.1 q.1.k q.2.1 ((bl.drop s.2).take (min (bl.length - s.2) q.2.2)), s.2 + min (bl.length - s.2) q.2.2)
def wsts (bl : List Int) (L : List Pz) (l : List (Pz × Nat × Nat)) : List Pz × Nat := l.foldl (wst bl) (L, 0)
theorem wsts_snoc (bl : List Int) (L : List Pz) (l : List (Pz × Nat × Nat)) (q : Pz × Nat × Nat) : wsts bl L (l ++ [q]) = wst bl (wsts bl L l) q := by simp [wsts]
theorem wsts_le (bl : List Int) (L : List Pz) (l : List (Pz × Nat × Nat)) : (wsts bl L l).2 ≤ bl.length := by
  unfold wsts
  have : ∀ (l : List (Pz × Nat × Nat)) (s : List Pz × Nat), s.2 ≤ bl.length → (l.foldl (wst bl) s).2 ≤ bl.length := by
    intro l
    induction l with
    | nil => intro s h; exact h
    | cons q l ih =>
      intro s h
      refine ih _ ?_
      have : min (bl.length - s.2) q.2.2 ≤ bl.length - s.2 := Nat.min_le_left _ _
      simp only [wst]
      omega
  exact this l (L, 0) (Nat.zero_le _)
theorem wrL_key (L : List Pz) (k fr : Nat) (ys : List Int) : (wrL L k fr ys).map (fun p => (p.k, p.may)) = L.map (fun p => (p.k, p.may)) := by
  unfold wrL
  rw [List.map_map]
  apply List.map_congr_left
  intro p _
  simp only [Function.comp]
  split <;> rfl
theorem wsts_key (bl : List Int) (L : List Pz) (l : List (Pz × Nat × Nat)) : (wsts bl L l).1.map (fun p => (p.k, p.may)) = L.map (fun p => (p.k, p.may)) := by
  unfold wsts
  have : ∀ (l : List (Pz × Nat × Nat)) (s : List Pz × Nat), (l.foldl (wst bl) s).1.map (fun p => (p.k, p.may)) = s.1.map (fun p => (p.k, p.may)) := by
    intro l
    induction l with
    | nil => intro s; rfl
    | cons q l ih =>
      intro s
      rw [List.foldl_cons, ih]
      exact wrL_key _ _ _ _
  exact this l (L, 0)
/-- What is told of a page but for its bytes. -/
theorem key_mem {L L' : List Pz} (h : L'.map (fun p => (p.k, p.may)) = L.map (fun p => (p.k, p.may))) {p : Pz} (hp : p ∈ L) : ∃ q ∈ L', q.k = p.k ∧ q.may = p.may := by
  have : (p.k, p.may) ∈ L'.map (fun p => (p.k, p.may)) := by rw [h]; exact List.mem_map.2 ⟨p, hp, rfl⟩
  obtain ⟨q, hq, e⟩ := List.mem_map.1 this
  injection e with e1 e2
  exact ⟨q, hq, e1, e2⟩
theorem MS_key {mb gb : Nat} {pl : Nat → Nat} {L L' : List Pz} (h : L'.map (fun p => (p.k, p.may)) = L.map (fun p => (p.k, p.may))) (b : Nat) : MS mb gb pl L' b ↔ MS mb gb pl L b := by
  constructor
  · rintro (e | e | ⟨p, hp, e⟩)
    · exact .inl e
    · exact .inr (.inl e)
    · obtain ⟨q, hq, e1, _⟩ := key_mem h.symm hp
      exact .inr (.inr ⟨q, hq, by rw [e1]; exact e⟩)
  · rintro (e | e | ⟨p, hp, e⟩)
    · exact .inl e
    · exact .inr (.inl e)
    · obtain ⟨q, hq, e1, _⟩ := key_mem h hp
      exact .inr (.inr ⟨q, hq, by rw [e1]; exact e⟩)
theorem fnd_key : ∀ {L L' : List Pz}, L'.map (fun p => (p.k, p.may)) = L.map (fun p => (p.k, p.may)) → ∀ k, (fnd L' k).isSome = (fnd L k).isSome
  | [], [], _, _ => rfl
  | [], _ :: _, h, _ => by simp at h
  | _ :: _, [], h, _ => by simp at h
  | p :: L, p' :: L', h, k => by
    simp only [List.map_cons, List.cons.injEq, Prod.mk.injEq] at h
    obtain ⟨⟨h1, _⟩, h2⟩ := h
    unfold fnd
    rw [List.find?_cons, List.find?_cons, h1]
    cases (p.k == k) with
    | true => rfl
    | false => exact fnd_key h2 k
theorem pgV_key {o o' : Option Pz} (h : o'.isSome = o.isSome) (b : Nat) : pgV o' b = pgV o b := by
  cases o <;> cases o' <;> simp at h <;> rfl
theorem Inv.key {D : DataW Value} {pl : Nat → Nat} {L L' : List Pz} (h : Inv D pl L) (hk : L'.map (fun p => (p.k, p.may)) = L.map (fun p => (p.k, p.may))) : Inv D pl L' :=
  ⟨h.is, by rw [h.size]; have := congrArg List.length hk; simpa using this.symm, fun k => by rw [h.has, fnd_key hk], fun k => by rw [h.at' k, pgV_key (fnd_key hk k)], h.all⟩

theorem wrL_ok {L : List Pz} (h : Mz L) {k fr : Nat} {ys : List Int} (hf : fr + ys.length ≤ 4096) (hy : ∀ y ∈ ys, 0 ≤ y ∧ y < 256) : Mz (wrL L k fr ys) := by
  refine ⟨fun p hp => ?_, ?_⟩
  · unfold wrL at hp
    obtain ⟨q, hq, rfl⟩ := List.mem_map.1 hp
    have ho := h.ok q hq
    by_cases e : q.k = k
    · rw [if_pos e]
      refine ⟨ho.k, ho.lo, ho.hi, ?_, fun x hx => ?_⟩
      · show (splice q.B fr ys).length = 4096
        rw [length_splice _ _ _ (by have := ho.len; omega)]; exact ho.len
      · simp only [splice, List.mem_append] at hx
        rcases hx with hx | hx | hx
        · exact ho.byte x (List.mem_of_mem_take hx)
        · exact hy x hx
        · exact ho.byte x (List.mem_of_mem_drop hx)
    · rw [if_neg e]; exact ho
  · unfold wrL
    rw [List.pairwise_map]
    refine h.up.imp (fun {p q} hpq => ?_)
    split <;> split <;> exact hpq

theorem splice_page (m : Int) (B ys : List Int) (fr : Nat) : splice (Value.int .i64 m :: B.map (Value.int .u8)) (1 + fr) (ys.map (Value.int .u8)) = Value.int .i64 m :: (splice B fr ys).map (Value.int .u8) := by
  unfold splice
  rw [Nat.add_comm 1 fr, List.take_succ_cons, show fr + 1 + (ys.map (Value.int .u8)).length = (fr + ys.length) + 1 by simp; omega, List.drop_succ_cons]
  simp

/-- A page's bytes have turned. -/
theorem MA.wr {w w2 : World} {mb gb : Nat} {pl : Nat → Nat} {L : List Pz} (h : MA w mb gb pl L) {p : Pz} (hp : p ∈ L) {fr : Nat} {ys : List Int} (hf : fr + ys.length ≤ 4096) (hy : ∀ y ∈ ys, 0 ≤ y ∧ y < 256)
    (h2 : w2.heap[pl p.k]? = some (.cells (splice (Value.int .i64 p.may :: p.B.map (Value.int .u8)) (1 + fr) (ys.map (Value.int .u8))).toArray 75)) (hg : w.grownBy w2 (some (pl p.k))) : MA w2 mb gb pl (wrL L p.k fr ys) := by
  have hk := wrL_key L p.k fr ys
  have hb : ∀ b, b < w.heap.size → b ≠ pl p.k → w2.heap[b]? = w.heap[b]? := fun b hb hne => hg.block b hb (by simpa using hne)
  obtain ⟨D, ⟨es, c, he, r⟩, hI⟩ := h.own
  have hlen : (wrL L p.k fr ys).length = L.length := by simp [wrL]
  refine ⟨?_, ⟨D, ⟨es, c, by rw [hb gb h.glt (h.pg hp).symm]; exact he, by rw [hlen]; exact r⟩, hI.key hk⟩, fun q hq => ?_, fun q hq q' hq' e => ?_, wrL_ok h.mz hf hy⟩
  · rw [hb mb h.mlt (h.pm hp).symm]; exact h.cells
  · unfold wrL at hq
    obtain ⟨q0, hq0, rfl⟩ := List.mem_map.1 hq
    by_cases e : q0.k = p.k
    · have : q0 = p := by
        have h1 := mem_fnd h.mz.up hq0
        have h3 := mem_fnd h.mz.up hp
        rw [e] at h1
        rw [h1] at h3
        exact Option.some.inj h3
      subst this
      rw [if_pos rfl]
      show w2.heap[pl q0.k]? = _
      rw [h2, splice_page]
      rfl
    · rw [if_neg e, hb _ (h.plt hq0) (fun e2 => e (h.inj q0 hq0 p hp e2))]
      exact h.pages q0 hq0
  · obtain ⟨a, ha, ea, _⟩ := key_mem hk.symm hq
    obtain ⟨b, hb', eb, _⟩ := key_mem hk.symm hq'
    rw [← ea, ← eb] at e ⊢
    exact h.inj a ha b hb' e

def setI (W : World) (b : Nat) (v : Int) : World := W.setCell ⟨b, 0, none⟩ (.int .i64 v)
theorem IR.keep {W W' : World} {mb gb : Nat} {pl : Nat → Nat} {L : List Pz} {D : DataW Value} {b1 b2 b3 b4 a n : Nat} {may : Int} (h : IR W mb gb pl L D b1 b2 b3 b4 a n may)
    (hs : ∀ k v, IB mb gb pl L b1 b2 b3 b4 k → W.cell? ⟨k, 0, none⟩ = some v → W'.cell? ⟨k, 0, none⟩ = some v) (hg : W'.heap[gb]? = W.heap[gb]?) : IR W' mb gb pl L D b1 b2 b3 b4 a n may := by
  obtain ⟨es, c, he, r⟩ := h.own
  exact ⟨hs _ _ (.inl rfl) h.c1, hs _ _ (.inr (.inl rfl)) h.c2, hs _ _ (.inr (.inr (.inl rfl))) h.c3, hs _ _ (.inr (.inr (.inr (.inl rfl)))) h.c4, hs _ _ (.inr (.inr (.inr (.inr (.inl rfl))))) h.m,
    ⟨es, c, hg.trans he, r⟩, fun p hp => hs _ _ (.inr (.inr (.inr (.inr (.inr (.inr ⟨p, hp, rfl⟩)))))) (h.p p hp)⟩
theorem give_no (v : Value) (a : Nat) (b : Value) (may ref : Int) (w : World) (h : NM w v) (ao : Option Addr) (n cap : Nat) (hb : b = .slice ao n cap) :
    Calls Try.prog 43 #[v, .int .u64 a, b, .int .i64 may, .int .i64 ref] w fun e w' => e = .returned (.int .i64 1) ∧ Below w.heap.size w w' := by
  subst hb
  have B0 : Below w.heap.size w (w.alloc (.cells #[.slice ao n cap] 31)) := (Below.refl _ _).alloc (Nat.le_refl _) _
  have HM := made_no v _ (h.below B0)
  have HB : Hid _ := ⟨B0⟩
  clear B0 h
  refine (callsIn_wide (n := 3)).1 ?_
  refine callsIn_of_wp_marks Try.func43 rfl trivial ?_ rfl
  simp only [Try.ntmps43, List.size_toArray, List.length_cons, List.length_nil, Nat.reduceAdd, Nat.reduceSub, Array.replicate_succ, Array.replicate_zero, List.push_toArray, List.append_toArray, List.nil_append, List.cons_append]
  gi_wp2_with (refine ⟨trivial, ?_⟩; gi_at_call 40; refine (callsIn_wide.2 HM).mono ?_; rintro e w1 ⟨he, hw⟩; subst he; subst hw)
  exact ⟨_, results_tmp rfl _ _ _, rfl, HB.out⟩

theorem give_size (mb gb a : Nat) (may ref : Int) (w : World) (h : w.cell? ⟨mb, 0, none⟩ = some (.map (some gb))) (ao : Option Addr) (n cap : Nat) (hn : 1048576 < n) :
    Calls Try.prog 43 #[.pointer (some ⟨mb, 0, none⟩), .int .u64 a, .slice ao n cap, .int .i64 may, .int .i64 ref] w fun e w' => e = .returned (.int .i64 6) ∧ Below w.heap.size w w' := by
  have B0 : Below w.heap.size w (w.alloc (.cells #[.slice ao n cap] 31)) := (Below.refl _ _).alloc (Nat.le_refl _) _
  have HM := made_ok mb gb _ ((B0.cell (p := ⟨mb, 0, none⟩) (World.block_lt_of_cell? _ _ h)).trans h)
  have HB : Hid _ := ⟨B0⟩
  have q1 : (1048576 : Int) < (n : Int) := by omega
  clear B0 h
  refine (callsIn_wide (n := 3)).1 ?_
  refine callsIn_of_wp_marks Try.func43 rfl trivial ?_ rfl
  simp only [Try.ntmps43, List.size_toArray, List.length_cons, List.length_nil, Nat.reduceAdd, Nat.reduceSub, Array.replicate_succ, Array.replicate_zero, List.push_toArray, List.append_toArray, List.nil_append, List.cons_append]
  gi_wp2_with (refine ⟨trivial, ?_⟩; gi_at_call 40; refine (callsIn_wide.2 HM).mono ?_; rintro e w1 ⟨he, hw⟩; subst he; subst hw)
  exact ⟨_, results_tmp rfl _ _ _, rfl, HB.out⟩

theorem give_not (mb gb a : Nat) (pl : Nat → Nat) (L : List Pz) (may ref : Int) (w : World) (h : MA w mb gb pl L) (ha : a < 18446744073709551616) (ao : Option Addr) (n cap : Nat) (hn : n ≤ 1048576) (hr : reachB L may a n = false) :
    Calls Try.prog 43 #[.pointer (some ⟨mb, 0, none⟩), .int .u64 a, .slice ao n cap, .int .i64 may, .int .i64 ref] w fun e w' => e = .returned (.int .i64 ref) ∧ Below w.heap.size w w' := by
  have B0 : Below w.heap.size w (w.alloc (.cells #[.slice ao n cap] 31)) := (Below.refl _ _).alloc (Nat.le_refl _) _
  have HM := made_ok mb gb _ (h.below B0).mcell
  have HR := reaches_ok mb gb a n pl L may _ (h.below B0) ha hn
  rw [hr] at HR
  have HB : Hid _ := ⟨B0⟩
  have q1 : ¬ (1048576 : Int) < (n : Int) := by omega
  clear B0 h
  refine (callsIn_wide (n := 3)).1 ?_
  refine callsIn_of_wp_marks Try.func43 rfl trivial ?_ rfl
  simp only [Try.ntmps43, List.size_toArray, List.length_cons, List.length_nil, Nat.reduceAdd, Nat.reduceSub, Array.replicate_succ, Array.replicate_zero, List.push_toArray, List.append_toArray, List.nil_append, List.cons_append]
  gi_wp2_with (first
    | (refine ⟨trivial, ?_⟩; gi_at_call 40; refine (callsIn_wide.2 HM).mono ?_; rintro e w1 ⟨he, hw⟩; subst he; subst hw)
    | (refine ⟨trivial, ?_⟩; gi_at_call 59; refine (callsIn_wide.2 HR).mono ?_; rintro e w1 ⟨he, hw⟩; subst he))
  exact ⟨_, results_tmp rfl _ _ _, rfl, HB.out.trans (hw.mono (by simp))⟩

set_option maxRecDepth 100000 in
set_option maxHeartbeats 4000000 in
theorem give_ok (mb gb a : Nat) (pl : Nat → Nat) (L : List Pz) (may ref : Int) (w : World) (h : MA w mb gb pl L) (ha : a < 18446744073709551616) (ao : Option Addr) (n cap : Nat) (hn : n ≤ 1048576) (hcap : n ≤ cap) (hcap2 : cap ≤ 9223372036854775807) (hr : reachB L may a n = true)
    (bl : List Int) (hbl : bl.length = n) (hby : ∀ y ∈ bl, 0 ≤ y ∧ y < 256) (hrow : n = 0 ∨ ∃ sb so, ao = some ⟨sb, so, none⟩ ∧ (¬ MS mb gb pl L sb) ∧ ∀ i, i < n → w.cell? ⟨sb, so + i, none⟩ = some (.int .u8 (bl.getD i 0))) :
    Calls Try.prog 43 #[.pointer (some ⟨mb, 0, none⟩), .int .u64 a, .slice ao n cap, .int .i64 may, .int .i64 ref] w fun e w' => e = .returned (.int .i64 0) ∧ MA w' mb gb pl (wsts bl L (pcsA L may a n)).1 ∧ Turn (MS mb gb pl L) w w' := by
  have B0 : Below w.heap.size w (w.alloc (.cells #[.slice ao n cap] 31)) := (Below.refl _ _).alloc (Nat.le_refl _) _
  have HM := made_ok mb gb _ (h.below B0).mcell
  have HR := reaches_ok mb gb a n pl L may _ (h.below B0) ha hn
  rw [hr] at HR
  have HB : Hid _ := ⟨B0⟩
  have q1 : (n : Int) ≤ 1048576 := by omega
  have qd : decide ((1048576 : Int) < (n : Int)) = false := by simp; omega
  clear B0
  refine (callsIn_wide (n := 3)).1 ?_
  refine callsIn_of_wp_marks Try.func43 rfl trivial ?_ rfl
  simp only [Try.ntmps43, List.size_toArray, List.length_cons, List.length_nil, Nat.reduceAdd, Nat.reduceSub, Array.replicate_succ, Array.replicate_zero, List.push_toArray, List.append_toArray, List.nil_append, List.cons_append]
  gi_wp2_with (first
    | (refine ⟨trivial, ?_⟩; gi_at_call 40; refine (callsIn_wide.2 HM).mono ?_; rintro e w1 ⟨he, hw⟩; subst he; subst hw)
    | (refine ⟨trivial, ?_⟩; gi_at_call 59; refine (callsIn_wide.2 HR).mono ?_; rintro e wb ⟨he, hwb⟩; subst he; have hcb := ((hwb.cell (p := ⟨w.heap.size, 0, none⟩) (by simp)).trans (show (w.alloc (.cells #[.slice ao n cap] 31)).cell? ⟨w.heap.size, 0, none⟩ = some (.slice ao n cap) by simp)); have hcb2 : (wb.alloc (.cells #[.int .i64 0] 3)).cell? ⟨w.heap.size, 0, none⟩ = some (.slice ao n cap) := ((Below.refl wb.heap.size wb).alloc (Nat.le_refl _) _).cell (p := ⟨w.heap.size, 0, none⟩) (World.block_lt_of_cell? _ _ hcb) |>.trans hcb)
    | (refine ⟨trivial, ?_⟩; gi_at_call 60; refine (callsIn_wide.2 (walk_any _ _ _ _ _)).mono ?_; rintro e w' ⟨rfl, rfl⟩))
  obtain ⟨w1, hw1⟩ : ∃ w1, wb.alloc (.cells #[.int .i64 0] 3) = w1 := ⟨_, rfl⟩
  have hBb : Below w.heap.size w wb := HB.out.trans (hwb.mono (by simp))
  have hsb : w.heap.size < wb.heap.size := World.block_lt_of_cell? _ _ hcb
  have hs1 : w1.heap.size = wb.heap.size + 1 := by rw [← hw1]; simp
  have hBb1 : Below wb.heap.size wb w1 := by rw [← hw1]; exact (Below.refl _ _).alloc (Nat.le_refl _) _
  have hB1 : Below w.heap.size w w1 := hBb.trans (hBb1.mono hBb.size)
  have bB0 : Boxed wb w.heap.size 31 (.slice ao n cap) := (hwb.block w.heap.size (by simp)).trans (Boxed.new w 31 (.slice ao n cap))
  have bB : Boxed w1 w.heap.size 31 (.slice ao n cap) := (hBb1.block w.heap.size hsb).trans bB0
  have bN : Boxed w1 wb.heap.size 3 (.int .i64 0) := by rw [← hw1]; exact Boxed.new wb 3 _
  rw [hw1]
  have h1 := h.below hB1
  obtain ⟨D, hD, hI⟩ := h1.own
  have hIR := ir_start h1 hD a n may
  have hBk := wk_below w1 mb a n may
  have hsk := wk_size w1 mb a n may
  have e0 : (((w1.alloc (.cells #[.pointer (some ⟨mb, 0, none⟩)] 23)).alloc (.cells #[.int .u64 (a : Int)] 30)).alloc (.cells #[.int .i64 (n : Int)] 3)).alloc (.cells #[.int .i64 may] 3) = wkW w1 mb a n may := rfl
  rw [e0]
  generalize wkW w1 mb a n may = w2 at *
  clear e0 hcb2 hcb
  rw [hs1] at hIR
  have bB2 : Boxed w2 w.heap.size 31 (.slice ao n cap) := (hBk.block w.heap.size (by omega)).trans bB
  have bN2 : Boxed w2 wb.heap.size 3 (.int .i64 0) := (hBk.block wb.heap.size (by omega)).trans bN
  have hB2 : Below w.heap.size w w2 := hB1.trans (hBk.mono hB1.size)
  generalize hnB : wb.heap.size = nB at *
  have hall : ∀ k, IB mb gb pl L (nB + 1 + 1) (nB + 1 + 2) (nB + 1) (nB + 1 + 3) k → k < w2.heap.size ∧ k ≠ w.heap.size ∧ k ≠ nB := by
    have m1 := h.mlt
    have m2 := h.glt
    rintro k (rfl | rfl | rfl | rfl | rfl | rfl | ⟨p, hp, rfl⟩)
    · omega
    · omega
    · omega
    · omega
    · omega
    · omega
    · have := h.plt hp
      omega
  refine wpIn_rangeFunc_ownG rfl (by omega) (gf := 65) (lb := #[.pointer (some ⟨nB + 1 + 1, 0, none⟩), .pointer (some ⟨nB + 1 + 2, 0, none⟩), .pointer (some ⟨nB + 1, 0, none⟩), .pointer (some ⟨nB + 1 + 3, 0, none⟩)]) rfl trivial (enters_of Try.func65 (by kernel_rfl) rfl)
    (walk_stops (3 - 1) (by omega) mb gb pl L h.mz D hI _ _ _ _ a n may ha hn w2 hIR) (fun {A B C} f g x => g (f x)) ?hKb (Below.refl _ _) (fun _ => rfl)
    (fun pre W => (Boxed W w.heap.size 31 (.slice ao n cap) ∧ Boxed W nB 3 (.int .i64 (((wsts bl L (pre.map (fun x => x.1))).2 : Nat) : Int))) ∧ MA W mb gb pl (wsts bl L (pre.map (fun x => x.1))).1 ∧ Turn (MS mb gb pl L) w W)
    (fun _ _ _ => False) ?hI (fun _ _ _ _ _ hs _ _ => hs) ?h0
    (fun x => { tmps := #[.pointer (some ⟨mb, 0, none⟩), .int .u64 (a : Int), .slice ao n cap, .int .i64 may, .int .i64 ref, undef, undef, .pointer (some ⟨w.heap.size, 0, none⟩), undef, undef, .int .i64 0, .pointer (some ⟨nB, 0, none⟩), .slice (some ⟨pl x.1.1.k, 1 + x.1.2.1, none⟩) x.1.2.2 (4096 - x.1.2.1), .bool false, .pointer (some ⟨mb, 0, none⟩), .bool true, .bool false, .bool false, .slice ao n cap, .int .i64 (n : Int), .bool false, .bool false, .pointer (some ⟨mb, 0, none⟩), .int .u64 (a : Int), .slice ao n cap, .int .i64 (n : Int), .int .i64 may, .bool true, .bool false, undef, .pointer (some ⟨mb, 0, none⟩), .int .u64 (a : Int), .slice ao n cap, .int .i64 (n : Int), .int .i64 may, .func (.func 65) #[] #[.pointer (some ⟨nB + 1 + 1, 0, none⟩), .pointer (some ⟨nB + 1 + 2, 0, none⟩), .pointer (some ⟨nB + 1, 0, none⟩), .pointer (some ⟨nB + 1 + 3, 0, none⟩)], .slice (some ⟨pl x.1.1.k, 1 + x.1.2.1, none⟩) x.1.2.2 (4096 - x.1.2.1), undef, undef, undef, undef, undef, undef, undef], defers := [] })
    ?assign ?body ?done ?stop
  case hKb =>
    intro W l o o' hl ho hnc hnw hx
    exact hx.other (fun k hk => by have := hall k hk; exact (grownBy_putObj' W l o').block k (by have := (Array.getElem?_eq_some_iff.1 ho).1; omega) (by simp; omega))
  case hI =>
    refine OwnFrom.and (OwnFrom.and (Own.from (boxed_own _ _ (fun _ => _)) _) (Own.from (boxed_own _ _ (fun pre => _)) _)) ?_
    intro s A B row hs hg hr
    have hlt : ∀ r, row = some r → w2.heap.size ≤ r := fun r e => (hr r e).1
    refine ⟨hs.1.grown hg (fun r e hms => ?_), hs.2.grown hg (fun k hk e => ?_)⟩
    · have h1 := hlt r e
      have h2 := h.slt ((MS_key (wsts_key bl L _) r).1 hms)
      have := hB2.size
      omega
    · have := hlt k e
      have := hB2.size
      omega
  case h0 => exact ⟨⟨bB2, bN2⟩, h.below hB2, Turn.of_below hB2 _⟩
  case assign =>
    intro l x W K hK
    unfold pcE
    gi_wp2
    exact hK
  case body =>
    rintro l pre x W ⟨⟨bx, by'⟩, hma, htu⟩ hlt
    obtain ⟨sb, so, rfl, hsMS, hsrc⟩ : ∃ sb so, ao = some ⟨sb, so, none⟩ ∧ (¬ MS mb gb pl L sb) ∧ ∀ i, i < n → w.cell? ⟨sb, so + i, none⟩ = some (.int .u8 (bl.getD i 0)) := by
      rcases hrow with h0 | h0
      · omega
      · exact h0
    have hkey := wsts_key bl L (pre.map (fun x => x.1))
    have hcn := wsts_le bl L (pre.map (fun x => x.1))
    have hstep := wsts_snoc bl L (pre.map (fun x => x.1)) x.1
    rw [hbl] at hcn
    obtain ⟨S0, hS0⟩ : ∃ S, wsts bl L (pre.map (fun x => x.1)) = S := ⟨_, rfl⟩
    rw [hS0] at hma by' hkey hcn hstep
    obtain ⟨LL, c⟩ := S0
    simp only at hma by' hkey hcn
    have hcB := bx.cell
    have hcN := by'.cell
    have hfN := by'.frozen
    obtain ⟨sp, hsl, hsp⟩ := slice_rest W.drew sb so n cap c hcn hcap
    obtain ⟨k, hk⟩ : ∃ k, min (n - c) x.1.2.2 = k := ⟨_, rfl⟩
    have hxv := x.2
    have hkle : k ≤ x.1.2.2 := by rw [← hk]; exact Nat.min_le_right _ _
    have hkn : k ≤ n - c := by rw [← hk]; exact Nat.min_le_left _ _
    obtain ⟨ys, hys⟩ : ∃ ys, (bl.drop c).take k = ys := ⟨_, rfl⟩
    have hyl : ys.length = k := by rw [← hys]; simp; omega
    have hyb : ∀ y ∈ ys, 0 ≤ y ∧ y < 256 := fun y hy => hby y (List.mem_of_mem_drop (List.mem_of_mem_take (hys ▸ hy)))
    obtain ⟨p, hpm, hpk, hpmay⟩ := key_mem hkey hxv.1
    have hpg := hma.pages p hpm
    have hf4 : x.1.2.1 + ys.length ≤ 4096 := by have := hxv.2.1; omega
    have hpl := (hma.mz.ok p hpm).len
    obtain ⟨W2, hrun, hgW2, hgr⟩ := copy_run W.drew (pl p.k) (1 + x.1.2.1) x.1.2.2 (4096 - x.1.2.1) (some ⟨pl p.k, 1 + x.1.2.1, none⟩) sp (n - c) (cap - c) (Value.int .i64 p.may :: p.B.map (Value.int .u8)) 75 (ys.map (Value.int .u8)) hpg (by rw [List.length_map, hyl]; exact hk.symm)
      (fun hp => ⟨rfl, _, hsp (by simp at hp; omega), fun j v hj => by
        rw [addr_add]
        have hjl : j < k := by have := (List.getElem?_eq_some_iff.1 hj).1; simpa [hyl] using this
        have e1 := hsrc (c + j) (by omega)
        have hsl2 : sb < w.heap.size := World.block_lt_of_cell? _ _ e1
        show W.cell? _ = _
        have e2 : W.cell? ⟨sb, so + c + j, none⟩ = w.cell? ⟨sb, so + c + j, none⟩ := by simp only [World.cell?, htu.block sb hsl2 hsMS]
        rw [e2, Nat.add_assoc, e1, ← hj, ← hys, List.getElem?_map, List.getElem?_take_of_lt hjl, List.getElem?_drop, List.getElem?_eq_getElem (by omega)]
        simp [List.getD, List.getElem?_eq_getElem (show c + j < bl.length by omega)]⟩)
      (by simp; omega)
      (fun v hv => by simp only [List.mem_map] at hv; obtain ⟨y, _, rfl⟩ := hv; rfl)
    rw [List.length_map, hyl] at hrun
    rw [hpk] at hrun hgW2 hgr
    have hmsx : MS mb gb pl L (pl x.1.1.k) := .inr (.inr ⟨x.1.1, hxv.1, rfl⟩)
    have hxlt : pl x.1.1.k < w.heap.size := h.slt hmsx
    have hsW := htu.size
    have hw2 := hB2.size
    have by2 : Boxed W2 nB 3 (.int .i64 ((c : Nat) : Int)) := (hgr.block _ (World.block_lt_of_cell? _ _ hcN) (by simp; omega)).trans by'
    have bx2 : Boxed W2 w.heap.size 31 (.slice (some ⟨sb, so, none⟩) n cap) := (hgr.block _ (World.block_lt_of_cell? _ _ hcB) (by simp; omega)).trans bx
    have hcN2 := by2.cell
    have hfN2 := by2.frozen
    have hcB2 := bx2.cell
    have hdc : W.drew.cell? ⟨w.heap.size, 0, none⟩ = some (.slice (some ⟨sb, so, none⟩) n cap) := hcB
    have hdn : W.drew.cell? ⟨nB, 0, none⟩ = some (.int .i64 ((c : Nat) : Int)) := hcN
    have hwr : IntKind.i64.wrap ((c : Int) + (k : Int)) = ((c + k : Nat) : Int) := by
      rw [IntKind.wrap_i64]
      omega
    have hnew : wsts bl L ((pre ++ [x]).map (fun x => x.1)) = (wrL LL x.1.1.k x.1.2.1 ys, c + k) := by
      rw [List.map_append, List.map_singleton, hstep]
      simp only [wst, hbl, hk, hys]
    have hgr' : W.grownBy W2 (some (pl x.1.1.k)) := ⟨hgr.os, hgr.tape, hgr.output, hgr.size, hgr.block⟩
    have hma2 : MA W2 mb gb pl (wrL LL x.1.1.k x.1.2.1 ys) := by
      have := hma.wr hpm hf4 hyb (by rw [hpk]; exact hgW2) (by rw [hpk]; exact hgr')
      rw [hpk] at this
      exact this
    have hfin : KeepsFrom w2.heap.size W (setI W2 nB (IntKind.i64.wrap ((c : Int) + (k : Int)))) ∧
        (IR W mb gb pl L D (nB + 1 + 1) (nB + 1 + 2) (nB + 1) (nB + 1 + 3) a n may → IR (setI W2 nB (IntKind.i64.wrap ((c : Int) + (k : Int)))) mb gb pl L D (nB + 1 + 1) (nB + 1 + 2) (nB + 1) (nB + 1 + 3) a n may) ∧
        (Boxed (setI W2 nB (IntKind.i64.wrap ((c : Int) + (k : Int)))) w.heap.size 31 (.slice (some ⟨sb, so, none⟩) n cap) ∧ Boxed (setI W2 nB (IntKind.i64.wrap ((c : Int) + (k : Int)))) nB 3 (.int .i64 (((wsts bl L ((pre ++ [x]).map (fun x => x.1))).2 : Nat) : Int))) ∧
        MA (setI W2 nB (IntKind.i64.wrap ((c : Int) + (k : Int)))) mb gb pl (wsts bl L ((pre ++ [x]).map (fun x => x.1))).1 ∧ Turn (MS mb gb pl L) w (setI W2 nB (IntKind.i64.wrap ((c : Int) + (k : Int)))) := by
      rw [hwr, hnew]
      unfold setI
      have htu2 : Turn (MS mb gb pl L) w W2 := htu.grown hgr' (fun k _ e => by cases e; exact hmsx)
      have hother : ∀ j, j < W.heap.size → j ≠ nB → j ≠ pl x.1.1.k → (W2.setCell ⟨nB, 0, none⟩ (.int .i64 ((c + k : Nat) : Int))).heap[j]? = W.heap[j]? := fun j h1 h2 h3 => by
        rw [Below.heap_setCell _ _ _ _ (by simpa using h2)]
        exact hgr'.block j h1 (by simpa using h3)
      refine ⟨(KeepsFrom.of_grownBy hgr' (fun j e => by cases e; omega)).trans ((KeepsOthers.setCell _ _ _).from _), fun hx => hx.keep (fun j v hj hv => ?_) ?_, ⟨bx2.other (by omega) _, by2.set _⟩, ?_, htu2.setCell _ (.inr (by simp; omega)) _⟩
      · have hq := hall j hj
        by_cases e : j = pl x.1.1.k
        · subst e
          have c1 : W.cell? ⟨pl x.1.1.k, 0, none⟩ = some (.int .i64 p.may) := by rw [← hpk]; exact hma.pcell hpm
          rw [c1] at hv
          cases hv
          have e3 : (W2.setCell ⟨nB, 0, none⟩ (.int .i64 ((c + k : Nat) : Int))).heap[pl x.1.1.k]? = W2.heap[pl x.1.1.k]? := Below.heap_setCell _ _ _ _ (by simp; omega)
          simp only [World.cell?, e3, hgW2]
          rw [splice_page]
          simp
        · simp only [World.cell?, hother j (hx.lt hj) hq.2.2 e] at hv ⊢
          exact hv
      · have hgl := hx.own.lt
        have hq := hall gb (.inr (.inr (.inr (.inr (.inr (.inl rfl))))))
        exact hother gb hgl hq.2.2 (fun e => by have := h.pg hxv.1; exact this e.symm)
      · refine hma2.turn (S := fun k => k = nB) ((Turn.refl (fun k => k = nB) W2).setCell ⟨nB, 0, none⟩ (.inl rfl) _) (fun b hb e => ?_)
        have := h.slt ((MS_key ((wrL_key _ _ _ _).trans hkey) b).1 hb)
        omega
    have HF : Hid _ := ⟨hfin⟩
    have hmx : Try.prog.follows .mixedOrders = true := by kernel_rfl
    have hq2 : (c : Int) + (k : Int) ≤ 1048576 := by omega
    clear hfin hnew hwr hma htu bx by' by2 bx2 hk hys hyl hkle hkn hxv hgW2 hgr hgr' hma2 hcn hsp hpg hpl hpm hpk hpmay hstep hkey hS0 hf4 hyb hmsx hsrc
    gi_wp2
    gi_region_with_o (fail)
    all_goals exact HF.out
  case done =>
    rintro DD ys W hD hys ⟨⟨bx, bn⟩, hma, htu⟩ hK
    rw [show ys.map (fun x => x.1) = pcsA L may a n from hys] at hma
    gi_wp2
    refine ⟨by simp, .inl ⟨_, _, rfl, run_takeDeferred hK, ?_⟩⟩
    refine ⟨_, results_tmp rfl _ _ _, rfl, ?_, ?_⟩
    · refine hma.grown (grownBy_putObj' W DD _) (fun r e hms => ?_)
      have := h.slt ((MS_key (wsts_key bl L _) r).1 hms)
      have := hB2.size
      cases e
      omega
    · exact htu.grown (grownBy_putObj' W DD _) (fun k hk e => by have := hB2.size; cases e; omega)
  case stop =>
    rintro D c pre W _ _ h _
    exact h.elim
end Go.Proofs.Ytpfmnopokfiheaa
