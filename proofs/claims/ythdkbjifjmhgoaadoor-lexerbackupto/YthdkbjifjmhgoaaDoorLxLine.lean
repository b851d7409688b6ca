/- The document's lines. -/
import Derived.Test.YthdkbjifjmhgoaaDoorLxTok
namespace Go.Proofs.YthdkbjifjmhgoaaDoor
open Go.ChangeShapes Go.WideShapes Go.ChangeAt Go.RowKit
set_option linter.unusedVariables false
set_option linter.unusedSimpArgs false

theorem word_pos {c : UInt8} {r : List UInt8} (h : isIn c = true) : 1 ≤ wordN (c :: r) := by
  unfold wordN
  rw [List.takeWhile_cons, h]
  simp
theorem dig_in {c : UInt8} (h : isDig c = true) : isIn c = true := by
  unfold isIn inZ
  have : digZ (zOf c) = true := h
  rw [this]; simp
theorem num_len {c : UInt8} {r : List UInt8} {v : Int} {n : Nat} (hc : isDig c = true ∨ c = 39) (h : numM (c :: r) = some (v, n)) : 1 ≤ n ∧ n ≤ (c :: r).length := by
  have hw := word_le (c :: r)
  unfold numM at h
  simp only at h
  split at h
  · split at h
    · split at h
      · simp only [Option.some.injEq, Prod.mk.injEq] at h
        obtain ⟨_, rfl⟩ := h
        simp
      · cases h
    · cases h
  · rename_i h39
    have hi : 1 ≤ wordN (c :: r) := word_pos (dig_in (hc.resolve_right h39))
    split at h
    · simp only [Option.map_eq_some_iff, Prod.mk.injEq] at h
      obtain ⟨_, _, _, rfl⟩ := h
      exact ⟨hi, hw⟩
    · simp only [Option.map_eq_some_iff, Prod.mk.injEq] at h
      obtain ⟨_, _, _, rfl⟩ := h
      exact ⟨hi, hw⟩
theorem quoF_len : ∀ (n : Nat) (l acc : List UInt8) (i : Nat) (t : List UInt8) (j : Nat), quoF n l acc i = some (t, j) → i < j ∧ j ≤ i + l.length
  | 0, l, acc, i, t, j, h => by cases h
  | n + 1, [], acc, i, t, j, h => by cases h
  | n + 1, c :: r, acc, i, t, j, h => by
    unfold quoF at h
    split at h
    · simp only [Option.some.injEq, Prod.mk.injEq] at h
      obtain ⟨_, rfl⟩ := h
      simp
    · split at h
      · cases h
      · split at h
        · split at h
          · cases h
          · rename_i x k he
            have := quoF_len n _ _ _ t j h
            have hk := esc_le he
            rw [List.length_drop] at this
            simp only [List.length_cons]
            omega
        · have := quoF_len n _ _ _ t j h
          simp only [List.length_cons]
          omega
theorem quo_len {c : UInt8} {r : List UInt8} {t : List UInt8} {n : Nat} (h : quoM (c :: r) = some (t, n)) : 1 ≤ n ∧ n ≤ (c :: r).length := by
  have := quoF_len _ _ _ _ _ _ h
  simp only [List.drop_succ_cons, List.drop_zero] at this
  simp only [List.length_cons]
  omega
theorem one_len {l : List UInt8} {t : Tok} {n : Nat} (h : oneM l = some (t, n)) : 1 ≤ n ∧ n ≤ l.length := by
  unfold oneM at h
  cases l with
  | nil => cases h
  | cons c r =>
    simp only at h
    split at h
    · simp only [Option.some.injEq, Prod.mk.injEq] at h
      obtain ⟨_, rfl⟩ := h
      simp
    · split at h
      · rename_i hc
        simp only [Option.map_eq_some_iff, Prod.mk.injEq] at h
        obtain ⟨p, hp, _, rfl⟩ := h
        exact num_len hc hp
      · split at h
        · simp only [Option.map_eq_some_iff, Prod.mk.injEq] at h
          obtain ⟨p, hp, _, rfl⟩ := h
          exact quo_len hp
        · split at h
          · split at h
            · cases h
            · simp only [Option.some.injEq, Prod.mk.injEq] at h
              obtain ⟨_, rfl⟩ := h
              have := reg_le r
              simp only [List.length_cons]
              omega
          · split at h
            · rename_i hi
              split at h
              · simp only [Option.some.injEq, Prod.mk.injEq] at h
                obtain ⟨_, rfl⟩ := h
                exact ⟨word_pos hi, word_le _⟩
              · cases h
            · split at h
              · cases h
              · rename_i hz
                simp only [Option.some.injEq, Prod.mk.injEq] at h
                obtain ⟨_, rfl⟩ := h
                refine ⟨by omega, ?_⟩
                unfold signN
                simp only
                split
                · rename_i h2
                  cases r with
                  | nil => simp at h2
                  | cons d r => simp
                · split <;> simp

/-- How line ends. -/
def LEnds (m : Option (List Tok)) (k : Int) (w : World) (e : Ending) (w' : World) : Prop :=
  match m with
  | none => e = .returned (.tuple #[.slice none 0 0, .bool false]) ∧ Below w.heap.size w w'
  | some ts => ∃ v, e = .returned (.tuple #[v, .bool true]) ∧ OwnT w' w.heap.size v (ts.map fun t => (t, k)) ∧ Below w.heap.size w w'
/-- So far. -/
def LFar (r : ByteArray) (M : Option (List Tok)) (ts : List Tok) : Prop := ∃ n, r.size < n ∧ M = (lineF n (lo r)).map (ts ++ ·)
theorem LFar.stop {r : ByteArray} {M : Option (List Tok)} {ts : List Tok} (h : LFar r M ts) (hr : r.size = 0) : M = some ts := by
  obtain ⟨n, hn, rfl⟩ := h
  rw [show lo r = [] from List.eq_nil_of_length_eq_zero (by rw [lo_len]; exact hr)]
  cases n <;> simp [lineF]
theorem LFar.step {r : ByteArray} {M : Option (List Tok)} {ts : List Tok} (h : LFar r M ts) (hr : 0 < r.size) : ∃ n, r.size ≤ n ∧ M = (if r[0] = 35 then some [] else if r[0] = 32 ∨ r[0] = 9 then lineF n ((lo r).drop 1) else match oneM (lo r) with | none => none | some (t, k) => (lineF n ((lo r).drop k)).map (t :: ·)).map (ts ++ ·) := by
  obtain ⟨n, hn, rfl⟩ := h
  cases n with
  | zero => omega
  | succ n =>
    refine ⟨n, by omega, ?_⟩
    have key : ∀ (l : List UInt8) (c : UInt8) (r' : List UInt8), l = c :: r' → lineF (n + 1) l = if c = 35 then some [] else if c = 32 ∨ c = 9 then lineF n r' else match oneM l with | none => none | some (t, k) => (lineF n (l.drop k)).map (t :: ·) := by
      rintro l c r' rfl
      rfl
    rw [key (lo r) r[0] ((lo r).drop 1) (lo_cons r hr)]
theorem lo_sub1 (r : ByteArray) (n : Nat) : lo (r.extract n r.size) = (lo r).drop n := by
  rw [lo_sub, List.take_of_length_le (by rw [List.length_drop, lo_len]; exact Nat.le_refl _)]
def strLen : Value → Nat
  | .string s => s.size
  | _ => 0
theorem nonempty (s : ByteArray) (h : 0 < s.size) : (s.toList.isEmpty = false) ∧ ((s.toList != []) = true) := by
  have h2 : s.toList.length = s.size := by rw [ByteArray.toList_eq]; simp
  cases hl : s.toList with
  | nil => rw [hl] at h2; simp at h2; omega
  | cons => simp
theorem isempty (s : ByteArray) (h : s.size = 0) : (s.toList.isEmpty = true) ∧ ((s.toList != []) = false) := by
  have h2 : s.toList.length = s.size := by rw [ByteArray.toList_eq]; simp
  rw [List.eq_nil_of_length_eq_zero (h2.trans h)]
  simp

set_option maxHeartbeats 8000000 in
set_option maxRecDepth 10000 in
theorem rline_any (s : ByteArray) (k : Int) (w : World) (hl : s.size ≤ 65536) :
    Calls Tryd.prog 23 #[.string s, .int .i64 k] w fun e w' => LEnds (lineM (lo s)) k w e w' := by
  obtain ⟨M, hM⟩ : ∃ M, lineF ((lo s).length + 1) (lo s) = M := ⟨_, rfl⟩
  have HM0 : Hid (LFar s M []) := ⟨(lo s).length + 1, by rw [lo_len]; omega, by rw [hM]; cases M <;> simp⟩
  have hR : lineM (lo s) = M.map fun ts => if ts = [] then [] else ts ++ [⟨6, 0, []⟩] := by rw [← hM]; rfl
  obtain ⟨R, hRR⟩ : ∃ R, lineM (lo s) = R := ⟨_, rfl⟩
  rw [hRR] at hR ⊢
  have HR : Hid _ := ⟨hR⟩
  clear hM hR hRR
  go_enter Tryd.func23, Tryd.ntmps23
  go_wp2
  go_loopw [0, 6] (fun x v wr => ∃ (r : ByteArray) (ts : List Tok), x = .string r ∧ r.size ≤ 65536 ∧ Hid (OwnT wr w.heap.size v (ts.map fun t => (t, k)) ∧ Below w.heap.size w wr ∧ ts.length + r.size ≤ 65536 ∧ LFar r M ts)) (fun x _ _ => strLen x)
  case atStart => exact ⟨s, [], rfl, hl, ⟨OwnT.nil _ _, Below.refl _ _, by simpa using hl, HM0.out⟩⟩
  case round =>
    obtain ⟨r, ts, rfl, hr, HW⟩ := hrel
    obtain ⟨O1, B1, hts, Q1⟩ := HW.out
    have hbs := B1.size
    have HB1 : Hid _ := ⟨B1⟩
    have HO1 : Hid _ := ⟨O1⟩
    by_cases h0 : 0 < r.size
    · obtain ⟨n, hn, hst⟩ := Q1.step h0
      have h0i : (0 : Int) < (r.size : Int) := by omega
      obtain ⟨ne1, ne2⟩ := nonempty r h0
      clear HW Q1 O1 B1
      by_cases c35 : r[0] = 35
      · have q35 : ((r[0].toNat : Int) != 35) = false := by rw [c35]; rfl
        rw [if_pos c35] at hst
        have hMs : Hid (M = some ts) := ⟨by rw [hst]; simp⟩
        clear hst c35
        by_cases he : ts = []
        · subst he
          have hRs : Hid (R = some []) := ⟨by rw [HR.out, hMs.out]; rfl⟩
          obtain ⟨ao, cp, hv, _, _, _, _⟩ := OwnT.any HO1.out
          subst hv
          go_wp2
          go_ret2
          rw [hRs.out]
          exact ⟨_, rfl, HO1.out, HB1.out⟩
        · have hRs : Hid (R = some (ts ++ [⟨6, 0, []⟩])) := ⟨by rw [HR.out, hMs.out]; simp [he]⟩
          obtain ⟨ao, cp, hv, _, _, _, _⟩ := OwnT.any HO1.out
          subst hv
          have hpos : 0 < (((ts.map fun t => (t, k)).length : Nat) : Int) := by
            have : ts.length ≠ 0 := fun h => he (List.eq_nil_of_length_eq_zero h)
            rw [List.length_map]; omega
          have hlen : (ts.map fun t => (t, k)).length + 1 ≤ 2199023255552 := by rw [List.length_map]; omega
          generalize hmm : (ts.map fun t => (t, k)) = tk at *
          have HMM : Hid _ := ⟨hmm⟩
          clear hmm he
          go_wp2_with (at_builtin; refine append_tok _ rfl _ _ rfl w.heap.size _ tk 6 k 0 [] _ rfl HO1.out rfl _ rfl rfl hlen hbs ?_; intro v2 w2 ho2 hb2)
          go_ret2
          rw [hRs.out]
          exact ⟨_, rfl, by rw [List.map_append, HMM.out]; exact ho2, HB1.out.trans hb2⟩
      · have q35 : ((r[0].toNat : Int) != 35) = true := by rw [bne_iff_ne]; intro h; exact c35 (UInt8.toNat_inj.1 (by show r[0].toNat = 35; omega))
        rw [if_neg c35] at hst
        clear c35
        by_cases cb : r[0] = 32 ∨ r[0] = 9
        · rw [if_pos cb] at hst
          have HN : Hid (LFar (r.extract 1 r.size) M ts) := ⟨n, by rw [ByteArray.size_extract]; omega, by rw [lo_sub1]; exact hst⟩
          have hsz : (r.extract 1 r.size).size = r.size - 1 := by rw [ByteArray.size_extract]; omega
          have HSZ : Hid _ := ⟨hsz⟩
          have h1i : (1 : Int) ≤ (r.size : Int) := by omega
          clear hst hsz
          cases q32 : ((r[0].toNat : Int) == 32)
          · have q9 : ((r[0].toNat : Int) == 9) = true := by
              rcases cb with h | h
              · rw [h] at q32; cases q32
              · rw [h]; rfl
            clear cb
            go_wp2
            go_roundw
            case rel => exact ⟨r.extract 1 r.size, ts, rfl, by rw [HSZ.out]; omega, ⟨HO1.out, HB1.out, by rw [HSZ.out]; omega, HN.out⟩⟩
            case measure => show (r.extract 1 r.size).size < r.size; rw [HSZ.out]; omega
          · clear cb
            go_wp2
            go_roundw
            case rel => exact ⟨r.extract 1 r.size, ts, rfl, by rw [HSZ.out]; omega, ⟨HO1.out, HB1.out, by rw [HSZ.out]; omega, HN.out⟩⟩
            case measure => show (r.extract 1 r.size).size < r.size; rw [HSZ.out]; omega
        · rw [if_neg cb] at hst
          have q32 : ((r[0].toNat : Int) == 32) = false := by rw [beq_eq_false_iff_ne]; intro h; exact cb (.inl (UInt8.toNat_inj.1 (by show r[0].toNat = 32; omega)))
          have q9 : ((r[0].toNat : Int) == 9) = false := by rw [beq_eq_false_iff_ne]; intro h; exact cb (.inr (UInt8.toNat_inj.1 (by show r[0].toNat = 9; omega)))
          have HO : Hid (∀ w, Calls Tryd.prog 37 #[.string r] w fun e w' => One3 (oneM (lo r)) e ∧ Below w.heap.size w w') := ⟨fun w => rone_any r w h0 (by omega)⟩
          clear cb
          cases ho : oneM (lo r) with
          | none =>
            rw [ho] at hst HO
            have hMn : Hid (R = none) := ⟨by rw [HR.out, hst]; rfl⟩
            clear hst ho
            go_wp2_with (go_at_call 37; (with_reducible refine (HO.out _).mono ?_); rintro e w1 ⟨⟨x1, x2, x3, x4, x5, rfl⟩, hb1⟩)
            go_ret2
            rw [hMn.out]
            exact ⟨rfl, (HB1.out.trans (hb1.mono HB1.out.size)).alloc (Nat.le_trans HB1.out.size hb1.size) _⟩
          | some p =>
            obtain ⟨t, j⟩ := p
            obtain ⟨j1, j2⟩ := one_len ho
            rw [lo_len] at j2
            rw [ho] at hst HO
            dsimp only [One3, Tok.val] at HO
            dsimp only at hst
            have HN : Hid (LFar (r.extract j r.size) M (ts ++ [t])) := ⟨n, by rw [ByteArray.size_extract]; omega, by rw [lo_sub1, hst, Option.map_map]; congr 1; funext x; simp⟩
            have HSZ : Hid ((r.extract j r.size).size = r.size - j) := ⟨by rw [ByteArray.size_extract]; omega⟩
            have j2i : (j : Int) ≤ (r.size : Int) := by omega
            have hlen : (ts.map fun t => (t, k)).length + 1 ≤ 2199023255552 := by rw [List.length_map]; omega
            clear hst ho
            go_wp2_with (first
              | (go_at_call 37; (with_reducible refine (HO.out _).mono ?_); rintro e w1 ⟨rfl, hb1⟩)
              | (at_builtin; refine append_tok (w1.alloc (.cells #[.int .i64 t.k, .int .i64 k, .int .i64 t.n, .string (St t.t)] 44)) rfl _ _ rfl w.heap.size u6 (ts.map fun t => (t, k)) t.k k t.n t.t _ rfl (World.ownsRow.alloc (OwnT.bel HO1.out hb1) _) rfl (w1.heap.size + 1) rfl (by simp) hlen (by simp; have := hb1.size; omega) ?_; intro v2 w2 ho2 hb2))
            go_roundw
            case rel => exact ⟨r.extract j r.size, ts ++ [t], rfl, by rw [HSZ.out]; omega, ⟨by rw [List.map_append]; exact ho2, ((HB1.out.trans (hb1.mono HB1.out.size)).alloc (Nat.le_trans HB1.out.size hb1.size) _).trans hb2, by rw [HSZ.out]; simp; omega, HN.out⟩⟩
            case measure => show (r.extract j r.size).size < r.size; rw [HSZ.out]; omega
    · have hz : r.size = 0 := by omega
      obtain ⟨ne1, ne2⟩ := isempty r hz
      have hMs : Hid (M = some ts) := ⟨Q1.stop hz⟩
      clear HW Q1 O1 B1
      by_cases he : ts = []
      · subst he
        have hRs : Hid (R = some []) := ⟨by rw [HR.out, hMs.out]; rfl⟩
        obtain ⟨ao, cp, hv, _, _, _, _⟩ := OwnT.any HO1.out
        subst hv
        go_wp2
        go_ret2
        rw [hRs.out]
        exact ⟨_, rfl, HO1.out, HB1.out⟩
      · have hRs : Hid (R = some (ts ++ [⟨6, 0, []⟩])) := ⟨by rw [HR.out, hMs.out]; simp [he]⟩
        obtain ⟨ao, cp, hv, _, _, _, _⟩ := OwnT.any HO1.out
        subst hv
        have hpos : 0 < (((ts.map fun t => (t, k)).length : Nat) : Int) := by
          have : ts.length ≠ 0 := fun h => he (List.eq_nil_of_length_eq_zero h)
          rw [List.length_map]; omega
        have hlen : (ts.map fun t => (t, k)).length + 1 ≤ 2199023255552 := by rw [List.length_map]; omega
        generalize hmm : (ts.map fun t => (t, k)) = tk at *
        have HMM : Hid _ := ⟨hmm⟩
        clear hmm he
        go_wp2_with (at_builtin; refine append_tok _ rfl _ _ rfl w.heap.size _ tk 6 k 0 [] _ rfl HO1.out rfl _ rfl rfl hlen hbs ?_; intro v2 w2 ho2 hb2)
        go_ret2
        rw [hRs.out]
        exact ⟨_, rfl, by rw [List.map_append, HMM.out]; exact ho2, HB1.out.trans hb2⟩
end Go.Proofs.YthdkbjifjmhgoaaDoor
