/- The walk of LexerClean. -/
import Derived.Test.YthdkbjifjmhgoaaDoorLxLaw
namespace Go.Proofs.YthdkbjifjmhgoaaDoor
open Go.ChangeShapes Go.WideShapes Go.ChangeAt Go.RowKit
set_option linter.unusedVariables false
set_option linter.unusedSimpArgs false

theorem drewN_cell (w : World) (p : Addr) : ∀ n, (w.drewN n).cell? p = w.cell? p
  | 0 => rfl
  | n + 1 => drewN_cell w p n

theorem cut_len : ∀ (L : List (List UInt8)) (k : Nat) (acc ts : List TL), (∀ s ∈ L, s.length ≤ 65536) → cutF L k acc = .ok ts → ts.length ≤ acc.length + L.length * 65537
  | [], k, acc, ts, _, h => by cases h; simp
  | s :: L, k, acc, ts, hs, h => by
    simp only [cutF] at h
    cases hl : lineM s with
    | none => rw [hl] at h; cases h
    | some l =>
      rw [hl] at h
      have h1 := line_len hl
      have h2 := hs s (by simp)
      have h3 := cut_len L (k + 1) _ ts (fun x hx => hs x (by simp [hx])) h
      rw [List.length_append, List.length_map] at h3
      simp only [List.length_cons]
      omega
theorem all_len {l : List UInt8} {ts : List TL} (h : allM l = .ok ts) : ts.length ≤ 9223372036854775806 := by
  unfold allM at h
  split at h
  · cases h
  · rename_i h1
    split at h
    · cases h
    · rename_i h2
      cases hc : cutF (linesM l) 1 [] with
      | error k => rw [hc] at h; cases h
      | ok x =>
        rw [hc] at h
        cases h
        have := cut_len _ _ _ _ (fun s hs => by
          have := (lines_all l []).2 s hs
          simp at this; omega) hc
        simp at this
        omega

theorem lexerClean_bad (HA : PAll) (s : ByteArray) (w : World) (hE : Er w) (m x : Int) (h : allM (lo s) = .error (m, x)) :
    Calls Tryd.prog 8 #[.string s] w fun e w' => e = .returned (.bool true) ∧ Below w.heap.size w w' := by
  have HC := HA s w hE
  rw [h] at HC
  have HL : Hid (∀ W, Below w.heap.size w W → Calls Tryd.prog 13 #[] W fun e w' => e = .returned (.bool true) ∧ Below W.heap.size W w') := ⟨fun W hW => live_any HA W (hE.below hW hE.sz)⟩
  have HC1 : Hid _ := ⟨HC⟩
  clear HC HA
  rcases all_err h with ⟨rfl, rfl⟩ | ⟨hm, rfl⟩
  all_goals
    clear h
    go_enter Tryd.func8, Tryd.ntmps8
    go_wp2_with (first
      | (go_at_call 9; (with_reducible refine HC1.out.mono ?_); rintro e w1 ⟨rfl, hb1⟩)
      | (go_at_call 12; refine (num_any _ _).mono ?_; rintro e w' ⟨rfl, hw'⟩; subst w')
      | (go_at_call 13; (with_reducible refine (HL.out _ hb1).mono ?_); rintro e w3 ⟨rfl, hb3⟩))
    go_ret
    exact ⟨rfl, hb1.trans (hb3.mono hb1.size)⟩

set_option maxHeartbeats 8000000 in
set_option maxRecDepth 10000 in
theorem lexerClean_good (HA : PAll) (s : ByteArray) (w : World) (hE : Er w) (ts : List TL) (hlen : ts.length ≤ 9223372036854775806) (h : allM (lo s) = .ok ts) :
    Calls Tryd.prog 8 #[.string s] w fun e w' => e = .returned (.bool true) ∧ Below w.heap.size w w' := by
  have HC := HA s w hE
  rw [h] at HC
  have HL : Hid (∀ W, Below w.heap.size w W → Calls Tryd.prog 13 #[] W fun e w' => e = .returned (.bool true) ∧ Below W.heap.size W w') := ⟨fun W hW => live_any HA W (hE.below hW hE.sz)⟩
  have HC1 : Hid _ := ⟨HC⟩
  obtain ⟨K, hcl⟩ := all_clean h
  have HCL : Hid _ := ⟨hcl⟩
  clear HC HA h hcl
  go_enter Tryd.func8, Tryd.ntmps8
  go_wp2_with (first
    | (go_at_call 9; (with_reducible refine HC1.out.mono ?_); rintro e w1 ⟨v1, rfl, o1, hb1⟩; obtain ⟨ao, cp, hv, _, _, ht, _⟩ := OwnTP.any o1; subst hv; have HT : Hid _ := ⟨ht⟩; have Hb1 : Hid _ := ⟨hb1⟩; clear o1 ht hb1)
    | (go_at_call 12; refine (num_any _ _).mono ?_; rintro e w' ⟨rfl, hw'⟩; subst w'))
  go_loopw [6] (fun i wr => ∃ k : Nat, k ≤ ts.length ∧ i = .int .i64 k ∧ Hid (Below w1.heap.size w1 wr)) (fun i _ => ts.length - (intOf i).toNat)
  case atStart => exact ⟨0, by omega, rfl, ⟨Below.refl _ _⟩⟩
  case round =>
    obtain ⟨k, hk, rfl, HB⟩ := hrel
    by_cases hlt : k < ts.length
    · obtain ⟨b, off, rfl, hat⟩ : ∃ b off, ao = some ⟨b, off, none⟩ ∧ ∀ i, i < ts.length → TokAt wr b (off + i * 4) (ts.getD i TL.none) := by
        rcases HT.out.below HB.out (Nat.le_refl _) with h | h
        · rw [h] at hlt; simp at hlt
        · exact h
      obtain ⟨c0, c1, c2, c3⟩ := hat k hlt
      have hlti : (k : Int) < (ts.length : Int) := by omega
      have hk0 : (0 : Int) ≤ (k : Int) := by omega
      have hok := (HCL.out.ok (ts.getD k TL.none) (by
        have : ts.getD k TL.none = ts[k] := by simp [hlt]
        rw [this]; exact List.getElem_mem hlt)).1
      obtain ⟨k1, k6, hpl⟩ := hok
      have HPL : Hid _ := ⟨hpl⟩
      clear hpl
      by_cases hz : k = 0
      · subst hz
        clear hat
        simp only [Nat.zero_mul, Nat.add_zero] at c0 c1 c2 c3
        generalize ts.getD 0 TL.none = p at *
        obtain ⟨⟨pk, pn, pt⟩, pl⟩ := p
        dsimp only at c0 c1 c2 c3 k1 k6 HPL
        have t1 : ¬ pk < 1 := by omega
        have t2 : ¬ 6 < pk := by omega
        have t3 : decide (pk < 1) = false := decide_eq_false t1
        have t4 : decide (6 < pk) = false := decide_eq_false t2
        go_wp2
        go_quiet (fail)
        have e0 : ((wr.alloc (.cells #[.int .i64 pk, .int .i64 pl, .int .i64 pn, .string (St pt)] 32)).drewN nq).cell? ⟨wr.heap.size, 0, none⟩ = some (.int .i64 pk) := by rw [drewN_cell]; simp
        have e3 : ((wr.alloc (.cells #[.int .i64 pk, .int .i64 pl, .int .i64 pn, .string (St pt)] 32)).drewN nq).cell? ⟨wr.heap.size, 3, none⟩ = some (.string (St pt)) := by rw [drewN_cell]; simp
        have HBV : Hid (Below w1.heap.size w1 ((wr.alloc (.cells #[.int .i64 pk, .int .i64 pl, .int .i64 pn, .string (St pt)] 32)).drewN nq)) := ⟨below_drewN (HB.out.alloc HB.out.size _) _⟩
        generalize (wr.alloc (.cells #[.int .i64 pk, .int .i64 pl, .int .i64 pn, .string (St pt)] 32)).drewN nq = V at *
        generalize wr.heap.size = B at *
        have hsz : (St pt).size = pt.length := St_size _
        obtain ⟨tx, htx⟩ : ∃ tx, St pt = tx := ⟨_, rfl⟩
        rw [htx] at e3 hsz
        have HPB : Hid (¬ pk = 3 → ∀ j, ∀ h : j < tx.size, 32 < (tx[j].toNat : Int) ∧ (tx[j].toNat : Int) ≤ 126) := ⟨fun h3 j hj => by
          subst htx
          have hj' : j < pt.length := by rw [St_size] at hj; exact hj
          exact (HPL.out h3).2 pt[j] (List.getElem_mem hj')⟩
        have HSB : Hid (¬ pk = 3 → tx.size ≤ 65536) := ⟨fun h3 => by rw [hsz]; exact (HPL.out h3).1⟩
        clear htx hsz
        go_wp2
        go_loop [8] (fun i => ∃ j : Nat, i = .int .i64 j ∧ j ≤ tx.size) (fun i => tx.size - (intOf i).toNat)
        case atStart => exact ⟨0, rfl, by omega⟩
        case round =>
          obtain ⟨j, rfl, hj⟩ := hrel
          cases h3 : (pk != 3)
          · by_cases hjl : j < tx.size
            · have hjli : (j : Int) < (tx.size : Int) := by omega
              go_wp2
              go_roundw
              case rel => exact ⟨1, hlt, by go_num, HBV⟩
              case measure => simp [intOf]; omega
            · have hjli : ¬ (j : Int) < (tx.size : Int) := by omega
              go_wp2
              go_roundw
              case rel => exact ⟨1, hlt, by go_num, HBV⟩
              case measure => simp [intOf]; omega
          · by_cases hjl : j < tx.size
            · have hjli : (j : Int) < (tx.size : Int) := by omega
              have HJL : Hid (j < tx.size) := ⟨hjl⟩
              have hsb := HSB.out (by simpa using h3)
              have hjb : j < 65536 := by omega
              clear hsb
              obtain ⟨g1, g2⟩ := HPB.out (by simpa using h3) j hjl
              have g1n : ¬ (tx[j].toNat : Int) ≤ 32 := by omega
              have g2n : ¬ 126 < (tx[j].toNat : Int) := by omega
              go_wp2
              go_round
              case rel => exact ⟨j + 1, by go_num, HJL.out⟩
              case measure => have := HJL.out; simp [intOf]; omega
            · have hjli : ¬ (j : Int) < (tx.size : Int) := by omega
              go_wp2
              go_roundw
              case rel => exact ⟨1, hlt, by go_num, HBV⟩
              case measure => simp [intOf]; omega
      · obtain ⟨m, rfl⟩ : ∃ m, k = m + 1 := ⟨k - 1, by omega⟩
        obtain ⟨d0, d1, d2, d3⟩ := hat m (by omega)
        have hnx := chain_at ts m HCL.out.chain hlt
        obtain ⟨hn1, hn2⟩ := hnx
        have hkp : (0 : Int) < ((m + 1 : Nat) : Int) := by omega
        have hi0 : (0 : Int) ≤ (m : Int) := by omega
        have hi2 : (m : Int) < (ts.length : Int) := by omega
        have hsub : (m : Int) + 1 - 1 = (m : Int) := by omega
        have hsub2 : ((m + 1 : Nat) : Int) - 1 = (m : Int) := by omega
        have hsw : IntKind.i64.wrap ((m : Int) + 1 - 1) = (m : Int) := by rw [IntKind.wrap_i64]; omega
        have hsw2 : IntKind.i64.wrap (((m + 1 : Nat) : Int) - 1) = (m : Int) := by rw [IntKind.wrap_i64]; omega
        have hsw3 : IntKind.i64.wrap (m : Int) = (m : Int) := by rw [IntKind.wrap_i64]; omega
        clear hat d2 d3 hz
        generalize ts.getD (m + 1) TL.none = p at *
        generalize ts.getD m TL.none = q at *
        obtain ⟨⟨pk, pn, pt⟩, pl⟩ := p
        obtain ⟨⟨qk, qn, qt⟩, ql⟩ := q
        dsimp only at c0 c1 c2 c3 k1 k6 HPL d0 d1 hn1 hn2
        have t1 : ¬ pk < 1 := by omega
        have t2 : ¬ 6 < pk := by omega
        have t3 : decide (pk < 1) = false := decide_eq_false t1
        have t4 : decide (6 < pk) = false := decide_eq_false t2
        have hbl : b < wr.heap.size := World.block_lt_of_cell? wr _ d1
        have hbn : ¬ b = wr.heap.size := by omega
        have D0 : (wr.alloc (.cells #[.int .i64 pk, .int .i64 pl, .int .i64 pn, .string (St pt)] 32)).cell? ⟨b, off + m * 4, none⟩ = some (.int .i64 qk) := ((Below.refl wr.heap.size wr).alloc (Nat.le_refl _) (.cells #[.int .i64 pk, .int .i64 pl, .int .i64 pn, .string (St pt)] 32) |>.cell (p := ⟨b, off + m * 4, none⟩) hbl).trans d0
        have D1 : (wr.alloc (.cells #[.int .i64 pk, .int .i64 pl, .int .i64 pn, .string (St pt)] 32)).cell? ⟨b, off + m * 4 + 1, none⟩ = some (.int .i64 ql) := ((Below.refl wr.heap.size wr).alloc (Nat.le_refl _) (.cells #[.int .i64 pk, .int .i64 pl, .int .i64 pn, .string (St pt)] 32) |>.cell (p := ⟨b, off + m * 4 + 1, none⟩) hbl).trans d1
        have hl0 : ¬ pl < ql := by omega
        have t5 : decide (pl < ql) = false := decide_eq_false hl0
        have t6 : decide ((0 : Int) < ((m + 1 : Nat) : Int)) = true := decide_eq_true hkp
        have hkn : 0 < m + 1 := by omega
        have t7 : decide (0 < m + 1) = true := decide_eq_true hkn
        have t8 : (0 : Int) < (m : Int) + 1 := by omega
        have t9 : decide ((0 : Int) < (m : Int) + 1) = true := decide_eq_true t8
        cases hq : (pl != ql)
        · skip
          go_wp2
          go_quiet (fail)
          have e0 : ((wr.alloc (.cells #[.int .i64 pk, .int .i64 pl, .int .i64 pn, .string (St pt)] 32)).drewN nq).cell? ⟨wr.heap.size, 0, none⟩ = some (.int .i64 pk) := by rw [drewN_cell]; simp
          have e3 : ((wr.alloc (.cells #[.int .i64 pk, .int .i64 pl, .int .i64 pn, .string (St pt)] 32)).drewN nq).cell? ⟨wr.heap.size, 3, none⟩ = some (.string (St pt)) := by rw [drewN_cell]; simp
          have HBV : Hid (Below w1.heap.size w1 ((wr.alloc (.cells #[.int .i64 pk, .int .i64 pl, .int .i64 pn, .string (St pt)] 32)).drewN nq)) := ⟨below_drewN (HB.out.alloc HB.out.size _) _⟩
          generalize (wr.alloc (.cells #[.int .i64 pk, .int .i64 pl, .int .i64 pn, .string (St pt)] 32)).drewN nq = V at *
          generalize wr.heap.size = B at *
          have hsz : (St pt).size = pt.length := St_size _
          obtain ⟨tx, htx⟩ : ∃ tx, St pt = tx := ⟨_, rfl⟩
          rw [htx] at e3 hsz
          have HPB : Hid (¬ pk = 3 → ∀ j, ∀ h : j < tx.size, 32 < (tx[j].toNat : Int) ∧ (tx[j].toNat : Int) ≤ 126) := ⟨fun h3 j hj => by
            subst htx
            have hj' : j < pt.length := by rw [St_size] at hj; exact hj
            exact (HPL.out h3).2 pt[j] (List.getElem_mem hj')⟩
          have HSB : Hid (¬ pk = 3 → tx.size ≤ 65536) := ⟨fun h3 => by rw [hsz]; exact (HPL.out h3).1⟩
          clear htx hsz
          go_wp2
          go_loop [8] (fun i => ∃ j : Nat, i = .int .i64 j ∧ j ≤ tx.size) (fun i => tx.size - (intOf i).toNat)
          case atStart => exact ⟨0, rfl, by omega⟩
          case round =>
            obtain ⟨j, rfl, hj⟩ := hrel
            cases h3 : (pk != 3)
            · by_cases hjl : j < tx.size
              · have hjli : (j : Int) < (tx.size : Int) := by omega
                go_wp2
                go_roundw
                case rel => exact ⟨m + 1 + 1, hlt, by go_num, HBV⟩
                case measure => simp [intOf]; omega
              · have hjli : ¬ (j : Int) < (tx.size : Int) := by omega
                go_wp2
                go_roundw
                case rel => exact ⟨m + 1 + 1, hlt, by go_num, HBV⟩
                case measure => simp [intOf]; omega
            · by_cases hjl : j < tx.size
              · have hjli : (j : Int) < (tx.size : Int) := by omega
                have HJL : Hid (j < tx.size) := ⟨hjl⟩
                have hsb := HSB.out (by simpa using h3)
                have hjb : j < 65536 := by omega
                clear hsb
                obtain ⟨g1, g2⟩ := HPB.out (by simpa using h3) j hjl
                have g1n : ¬ (tx[j].toNat : Int) ≤ 32 := by omega
                have g2n : ¬ 126 < (tx[j].toNat : Int) := by omega
                go_wp2
                go_round
                case rel => exact ⟨j + 1, by go_num, HJL.out⟩
                case measure => have := HJL.out; simp [intOf]; omega
              · have hjli : ¬ (j : Int) < (tx.size : Int) := by omega
                go_wp2
                go_roundw
                case rel => exact ⟨m + 1 + 1, hlt, by go_num, HBV⟩
                case measure => simp [intOf]; omega
        · have hq6 : (qk != 6) = false := by
            have := hn2 (by simpa using hq)
            rw [this]; rfl
          go_wp2
          go_quiet (fail)
          have e0 : ((wr.alloc (.cells #[.int .i64 pk, .int .i64 pl, .int .i64 pn, .string (St pt)] 32)).drewN nq).cell? ⟨wr.heap.size, 0, none⟩ = some (.int .i64 pk) := by rw [drewN_cell]; simp
          have e3 : ((wr.alloc (.cells #[.int .i64 pk, .int .i64 pl, .int .i64 pn, .string (St pt)] 32)).drewN nq).cell? ⟨wr.heap.size, 3, none⟩ = some (.string (St pt)) := by rw [drewN_cell]; simp
          have HBV : Hid (Below w1.heap.size w1 ((wr.alloc (.cells #[.int .i64 pk, .int .i64 pl, .int .i64 pn, .string (St pt)] 32)).drewN nq)) := ⟨below_drewN (HB.out.alloc HB.out.size _) _⟩
          generalize (wr.alloc (.cells #[.int .i64 pk, .int .i64 pl, .int .i64 pn, .string (St pt)] 32)).drewN nq = V at *
          generalize wr.heap.size = B at *
          have hsz : (St pt).size = pt.length := St_size _
          obtain ⟨tx, htx⟩ : ∃ tx, St pt = tx := ⟨_, rfl⟩
          rw [htx] at e3 hsz
          have HPB : Hid (¬ pk = 3 → ∀ j, ∀ h : j < tx.size, 32 < (tx[j].toNat : Int) ∧ (tx[j].toNat : Int) ≤ 126) := ⟨fun h3 j hj => by
            subst htx
            have hj' : j < pt.length := by rw [St_size] at hj; exact hj
            exact (HPL.out h3).2 pt[j] (List.getElem_mem hj')⟩
          have HSB : Hid (¬ pk = 3 → tx.size ≤ 65536) := ⟨fun h3 => by rw [hsz]; exact (HPL.out h3).1⟩
          clear htx hsz
          go_wp2
          go_loop [8] (fun i => ∃ j : Nat, i = .int .i64 j ∧ j ≤ tx.size) (fun i => tx.size - (intOf i).toNat)
          case atStart => exact ⟨0, rfl, by omega⟩
          case round =>
            obtain ⟨j, rfl, hj⟩ := hrel
            cases h3 : (pk != 3)
            · by_cases hjl : j < tx.size
              · have hjli : (j : Int) < (tx.size : Int) := by omega
                go_wp2
                go_roundw
                case rel => exact ⟨m + 1 + 1, hlt, by go_num, HBV⟩
                case measure => simp [intOf]; omega
              · have hjli : ¬ (j : Int) < (tx.size : Int) := by omega
                go_wp2
                go_roundw
                case rel => exact ⟨m + 1 + 1, hlt, by go_num, HBV⟩
                case measure => simp [intOf]; omega
            · by_cases hjl : j < tx.size
              · have hjli : (j : Int) < (tx.size : Int) := by omega
                have HJL : Hid (j < tx.size) := ⟨hjl⟩
                have hsb := HSB.out (by simpa using h3)
                have hjb : j < 65536 := by omega
                clear hsb
                obtain ⟨g1, g2⟩ := HPB.out (by simpa using h3) j hjl
                have g1n : ¬ (tx[j].toNat : Int) ≤ 32 := by omega
                have g2n : ¬ 126 < (tx[j].toNat : Int) := by omega
                go_wp2
                go_round
                case rel => exact ⟨j + 1, by go_num, HJL.out⟩
                case measure => have := HJL.out; simp [intOf]; omega
              · have hjli : ¬ (j : Int) < (tx.size : Int) := by omega
                go_wp2
                go_roundw
                case rel => exact ⟨m + 1 + 1, hlt, by go_num, HBV⟩
                case measure => simp [intOf]; omega
    · obtain rfl : k = ts.length := by omega
      have HLS : Hid _ := ⟨HCL.out.last⟩
      by_cases hz : ts.length = 0
      · have hzi : ((ts.length : Int) == 0) = true := by rw [hz]; rfl
        go_wp2_with (go_at_call 13; (with_reducible refine (HL.out _ (Hb1.out.trans (HB.out.mono Hb1.out.size))).mono ?_); rintro e w3 ⟨rfl, hb3⟩)
        go_ret
        exact ⟨rfl, (Hb1.out.trans (HB.out.mono Hb1.out.size)).trans (hb3.mono (Hb1.out.trans (HB.out.mono Hb1.out.size)).size)⟩
      · have hzi : ((ts.length : Int) == 0) = false := by rw [beq_eq_false_iff_ne]; omega
        obtain ⟨b, off, rfl, hat⟩ : ∃ b off, ao = some ⟨b, off, none⟩ ∧ ∀ i, i < ts.length → TokAt wr b (off + i * 4) (ts.getD i TL.none) := by
          rcases HT.out.below HB.out (Nat.le_refl _) with h | h
          · rw [h] at hz; simp at hz
          · exact h
        obtain ⟨d0, d1, d2, d3⟩ := hat (ts.length - 1) (by omega)
        have h6 : (ts.getD (ts.length - 1) TL.none).1.k = 6 := HCL.out.last _ (by
          rw [List.getLast?_eq_getElem?, List.getD_eq_getElem?_getD]
          have : ts.length - 1 < ts.length := by omega
          simp [this])
        rw [h6] at d0
        have hw1 : IntKind.i64.wrap ((ts.length : Int) - 1) = (ts.length : Int) - 1 := by rw [IntKind.wrap_i64]; omega
        have hi1 : (0 : Int) ≤ (ts.length : Int) - 1 := by omega
        have hi2 : (ts.length : Int) - 1 < (ts.length : Int) := by omega
        have hi3 : ((ts.length : Int) - 1).toNat = ts.length - 1 := by omega
        clear hat d1 d2 d3 h6
        go_wp2_with (go_at_call 13; (with_reducible refine (HL.out _ (Hb1.out.trans (HB.out.mono Hb1.out.size))).mono ?_); rintro e w3 ⟨rfl, hb3⟩)
        go_ret
        exact ⟨rfl, (Hb1.out.trans (HB.out.mono Hb1.out.size)).trans (hb3.mono (Hb1.out.trans (HB.out.mono Hb1.out.size)).size)⟩

theorem lexerClean_walk (HA : PAll) (s : ByteArray) (w : World) (hE : Er w) :
    Calls Tryd.prog 8 #[.string s] w fun e w' => e = .returned (.bool true) ∧ Below w.heap.size w w' := by
  cases h : allM (lo s) with
  | error p => exact lexerClean_bad HA s w hE p.1 p.2 h
  | ok ts => exact lexerClean_good HA s w hE ts (all_len h) h
end Go.Proofs.YthdkbjifjmhgoaaDoor
