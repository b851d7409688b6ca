/- Tables of common entries alone that may be: the program's Check. Write of one common entry. The law's live: a pointer, and a common entry of 24 bytes. -/
import Derived.Test.YtomboebfbipaaaaDoorEGetX
import Derived.Test.YtomboebfbipaaaaDoorCPRowsX
import Derived.Test.YtomboebfbipaaaaDoorECieX
namespace Go.Proofs.YtomboebfbipaaaaDoor
open Go.ChangeShapes Go.WideShapes Go.ChangeAt Go.RowKit Go.Maps
set_option linter.unusedVariables false
set_option linter.unusedSimpArgs false

/-- A common entry. -/
structure Ce where
  enc : Int
  ini : List Oq
def Ce.zero : Ce := ⟨0, []⟩
/-- A common entry may be. -/
structure Ce.Ok (x : Ce) : Prop where
  enc : encB x.enc = true
  len : x.ini.length ≤ 3992
  ops : rowsE x.ini [] 0 = 0
def CeAt (w : World) (b off : Nat) (x : Ce) : Prop := ∃ a c, w.cell? ⟨b, off, none⟩ = some (.int .i64 x.enc) ∧ w.cell? ⟨b, off + 1, none⟩ = some (.slice a x.ini.length c) ∧ IsOq w a c x.ini
theorem CeAt.bel {w w' : World} {b off : Nat} {x : Ce} (h : CeAt w b off x) (hb : Below w.heap.size w w') : CeAt w' b off x := by
  obtain ⟨a, c, h1, h2, h3⟩ := h
  exact ⟨a, c, up_bel h1 hb, up_bel h2 hb, h3.bel hb⟩
def Cs (w : World) (ao : Option Addr) (L : List Ce) : Prop := L.length = 0 ∨ ∃ b off, ao = some ⟨b, off, none⟩ ∧ ∀ i, i < L.length → CeAt w b (off + i * 2) (L.getD i Ce.zero)
theorem Cs.bel {w w' : World} {ao : Option Addr} {L : List Ce} (h : Cs w ao L) (hb : Below w.heap.size w w') : Cs w' ao L := by
  rcases h with h | ⟨b, off, e, h⟩
  · exact .inl h
  · exact .inr ⟨b, off, e, fun i hi => (h i hi).bel hb⟩
theorem ce_in {L : List Ce} {i : Nat} (h : i < L.length) : L.getD i Ce.zero ∈ L := by
  simp [h]

set_option maxHeartbeats 1000000 in
theorem many_no (ao : Option Addr) (cap : Nat) (L : List Ce) (w : World) (h : Cs w ao L) (hn : L.length ≤ 4000) (hg : ∀ x ∈ L, x.Ok) :
    Calls Tryd.prog 45 #[.slice ao L.length cap, .slice none 0 0] w fun e w' => e = .returned (.bool false) ∧ Below w.heap.size w w' := by
  have HC : Hid _ := ⟨h⟩
  have HG : Hid _ := ⟨hg⟩
  have h4 : ¬ (4000 : Int) < (L.length : Int) := by omega
  clear h hg
  go_enter Tryd.func45, Tryd.ntmps45
  go_wp2
  go_loopw [19] (fun iv wr => ∃ k : Nat, k ≤ L.length ∧ iv = .int .i64 k ∧ Hid (Below w.heap.size w wr)) (fun iv _ => L.length - (intOf iv).toNat)
  case atStart => exact ⟨0, by omega, rfl, ⟨Below.refl _ _⟩⟩
  case round =>
    obtain ⟨k, hk, rfl, HW⟩ := hrel
    by_cases hlt : k < L.length
    · obtain ⟨b, off, rfl, hat⟩ : ∃ b off, ao = some ⟨b, off, none⟩ ∧ ∀ j, j < L.length → CeAt wr b (off + j * 2) (L.getD j Ce.zero) := by
        rcases HC.out.bel HW.out with h | h
        · omega
        · exact h
      have q1 : (k : Int) < (L.length : Int) := by omega
      have q0 : (0 : Int) ≤ (k : Int) := by omega
      have hok := HG.out _ (ce_in hlt)
      obtain ⟨a, c, c0, c1, hI⟩ := hat k hlt
      have hl := hok.len
      have hl' : ¬ (3992 : Int) < ((L.getD k Ce.zero).ini.length : Int) := by omega
      generalize (L.getD k Ce.zero) = x at *
      clear hat hI hok
      go_wp2
      go_roundw
      case rel => exact ⟨k + 1, by omega, by go_num, ⟨HW.out.alloc HW.out.size _⟩⟩
      case measure => simp [intOf]; omega
    · obtain rfl : k = L.length := by omega
      have q1 : ¬ (L.length : Int) < (L.length : Int) := by omega
      go_wp2
      go_loopw [30] (fun iv wr => iv = .int .i64 0 ∧ Hid (Below w.heap.size w wr)) (fun iv _ => 0)
      case atStart => exact ⟨rfl, HW⟩
      case round =>
        obtain ⟨rfl, HW2⟩ := hrel
        go_wp2
        go_ret
        exact ⟨rfl, HW2.out⟩
set_option maxHeartbeats 1000000 in
theorem nums_yes (ao : Option Addr) (cap : Nat) (L : List Ce) (w : World) (h : Cs w ao L) (hn : L.length ≤ 4000) (hg : ∀ x ∈ L, x.Ok) :
    Calls Tryd.prog 46 #[.slice ao L.length cap, .slice none 0 0] w fun e w' => e = .returned (.bool true) ∧ Below w.heap.size w w' := by
  have HC : Hid _ := ⟨h⟩
  have HG : Hid _ := ⟨hg⟩
  clear h hg
  go_enter Tryd.func46, Tryd.ntmps46
  go_wp2
  go_loopw [13] (fun iv wr => ∃ k : Nat, k ≤ L.length ∧ iv = .int .i64 k ∧ Hid (Below w.heap.size w wr)) (fun iv _ => L.length - (intOf iv).toNat)
  case atStart => exact ⟨0, by omega, rfl, ⟨Below.refl _ _⟩⟩
  case round =>
    obtain ⟨k, hk, rfl, HW⟩ := hrel
    by_cases hlt : k < L.length
    · obtain ⟨b, off, rfl, hat⟩ : ∃ b off, ao = some ⟨b, off, none⟩ ∧ ∀ j, j < L.length → CeAt wr b (off + j * 2) (L.getD j Ce.zero) := by
        rcases HC.out.bel HW.out with h | h
        · omega
        · exact h
      have q1 : (k : Int) < (L.length : Int) := by omega
      have q0 : (0 : Int) ≤ (k : Int) := by omega
      have hok := HG.out _ (ce_in hlt)
      obtain ⟨a, c, c0, c1, hI⟩ := hat k hlt
      have he := hok.enc
      have hee := enc_of he
      have HE : Hid _ := ⟨fun w => encodingOf_any (L.getD k Ce.zero).enc w (by omega) (by omega)⟩
      rw [he] at HE
      obtain ⟨z, s, g, d, hX⟩ := eX_some (L.getD k Ce.zero).enc
      rw [hX] at HE
      generalize (L.getD k Ce.zero) = x at *
      clear hat hI hok he hee hX
      go_wp2_with (go_at_call 18; (with_reducible refine (HE.out _).mono ?_); rintro e w1 ⟨he, hb⟩; subst he; have HB : Hid (Below w.heap.size w w1) := ⟨(HW.out.alloc HW.out.size _).trans (hb.mono (by have := HW.out.size; simp; omega))⟩; clear hb)
      go_roundw
      case rel => exact ⟨k + 1, by omega, by go_num, ⟨HB.out.alloc HB.out.size _⟩⟩
      case measure => simp [intOf]; omega
    · obtain rfl : k = L.length := by omega
      have q1 : ¬ (L.length : Int) < (L.length : Int) := by omega
      go_wp2
      go_loopw [28] (fun iv wr => iv = .int .i64 0 ∧ Hid (Below w.heap.size w wr)) (fun iv _ => 0)
      case atStart => exact ⟨rfl, HW⟩
      case round =>
        obtain ⟨rfl, HW2⟩ := hrel
        go_wp2
        go_ret
        exact ⟨rfl, HW2.out⟩

set_option maxHeartbeats 1000000 in
theorem ops_yes (ao : Option Addr) (cap : Nat) (L : List Ce) (w : World) (h : Cs w ao L) (hn : L.length ≤ 4000) (hg : ∀ x ∈ L, x.Ok) (hf : Fz w) :
    Calls Tryd.prog 47 #[.slice ao L.length cap, .slice none 0 0] w fun e w' => e = .returned (.bool true) ∧ Below w.heap.size w w' := by
  have HC : Hid _ := ⟨h⟩
  have HG : Hid _ := ⟨hg⟩
  have HF : Hid _ := ⟨hf⟩
  clear h hg hf
  go_enter Tryd.func47, Tryd.ntmps47
  go_wp2
  go_loopw [11] (fun iv wr => ∃ k : Nat, k ≤ L.length ∧ iv = .int .i64 k ∧ Hid (Below w.heap.size w wr)) (fun iv _ => L.length - (intOf iv).toNat)
  case atStart => exact ⟨0, by omega, rfl, ⟨Below.refl _ _⟩⟩
  case round =>
    obtain ⟨k, hk, rfl, HW⟩ := hrel
    by_cases hlt : k < L.length
    · obtain ⟨b, off, rfl, hat⟩ : ∃ b off, ao = some ⟨b, off, none⟩ ∧ ∀ j, j < L.length → CeAt wr b (off + j * 2) (L.getD j Ce.zero) := by
        rcases HC.out.bel HW.out with h | h
        · omega
        · exact h
      have q1 : (k : Int) < (L.length : Int) := by omega
      have q0 : (0 : Int) ≤ (k : Int) := by omega
      have hok := HG.out _ (ce_in hlt)
      obtain ⟨a, c, c0, c1, hI⟩ := hat k hlt
      have hl := hok.len
      have hbw : Below w.heap.size w (wr.alloc (.cells #[.int .i64 (L.getD k Ce.zero).enc, .slice a (L.getD k Ce.zero).ini.length c] 76)) := HW.out.alloc HW.out.size _
      have HP : Hid (Calls Tryd.prog 66 #[.slice a (L.getD k Ce.zero).ini.length c, .slice none 0 0, .int .i64 0] (wr.alloc (.cells #[.int .i64 (L.getD k Ce.zero).enc, .slice a (L.getD k Ce.zero).ini.length c] 76)) fun e w' => e = .returned (.int .i64 0) ∧ Below (wr.alloc (.cells #[.int .i64 (L.getD k Ce.zero).enc, .slice a (L.getD k Ce.zero).ini.length c] 76)).heap.size (wr.alloc (.cells #[.int .i64 (L.getD k Ce.zero).enc, .slice a (L.getD k Ce.zero).ini.length c] 76)) w') := ⟨by
        have hp := pcheck a c (L.getD k Ce.zero).ini none 0 [] 0 (wr.alloc (.cells #[.int .i64 (L.getD k Ce.zero).enc, .slice a (L.getD k Ce.zero).ini.length c] 76)) (by omega) (by simp) (by omega) (hI.bel ((Below.refl _ _).alloc (Nat.le_refl _) _)) ⟨.inl rfl, fun _ => ⟨rfl, rfl⟩, by simp, by simp⟩ (HF.out.bel hbw HF.out.z)
        rw [hok.ops] at hp
        exact hp⟩
      generalize (L.getD k Ce.zero) = x at *
      have HB0 : Hid _ := ⟨hbw⟩
      clear hat hI hok hbw
      go_wp2_with (go_at_call 66; (with_reducible refine HP.out.mono ?_); rintro e w1 ⟨he, hb⟩; subst he; have HB : Hid (Below w.heap.size w w1) := ⟨HB0.out.trans (hb.mono HB0.out.size)⟩; clear hb)
      go_roundw
      case rel => exact ⟨k + 1, by omega, by go_num, HB⟩
      case measure => simp [intOf]; omega
    · obtain rfl : k = L.length := by omega
      have q1 : ¬ (L.length : Int) < (L.length : Int) := by omega
      go_wp2
      go_loopw [22] (fun iv wr => iv = .int .i64 0 ∧ Hid (Below w.heap.size w wr)) (fun iv _ => 0)
      case atStart => exact ⟨rfl, HW⟩
      case round =>
        obtain ⟨rfl, HW2⟩ := hrel
        go_wp2
        go_ret
        exact ⟨rfl, HW2.out⟩

theorem check_ok (ao : Option Addr) (cap : Nat) (L : List Ce) (w : World) (h : Cs w ao L) (hn : L.length ≤ 4000) (hg : ∀ x ∈ L, x.Ok) (hf : Fz w) :
    Calls Tryd.prog 15 #[.slice ao L.length cap, .slice none 0 0] w fun e w' => e = .returned (.int .i64 0) ∧ Below w.heap.size w w' := by
  have H1 : Hid _ := ⟨many_no ao cap L w h hn hg⟩
  have H2 : Hid (∀ w1, Below w.heap.size w w1 → Calls Tryd.prog 46 #[.slice ao L.length cap, .slice none 0 0] w1 fun e w' => e = .returned (.bool true) ∧ Below w1.heap.size w1 w') := ⟨fun w1 hb => nums_yes ao cap L w1 (h.bel hb) hn hg⟩
  have H3 : Hid (∀ w1, Below w.heap.size w w1 → Calls Tryd.prog 47 #[.slice ao L.length cap, .slice none 0 0] w1 fun e w' => e = .returned (.bool true) ∧ Below w1.heap.size w1 w') := ⟨fun w1 hb => ops_yes ao cap L w1 (h.bel hb) hn hg (hf.bel hb hf.z)⟩
  clear h hn hg hf
  go_enter Tryd.func15, Tryd.ntmps15
  go_wp2_with (first
    | (go_at_call 45; (with_reducible refine H1.out.mono ?_); rintro e w1 ⟨he, hb⟩; subst he; have B1 : Hid (Below w.heap.size w w1) := ⟨hb⟩; clear hb)
    | (go_at_call 46; (with_reducible refine (H2.out _ B1.out).mono ?_); rintro e w2 ⟨he, hb⟩; subst he; have B2 : Hid (Below w.heap.size w w2) := ⟨B1.out.trans (hb.mono B1.out.size)⟩; clear hb)
    | (go_at_call 47; (with_reducible refine (H3.out _ B2.out).mono ?_); rintro e w3 ⟨he, hb⟩; subst he; have B3 : Hid (Below w.heap.size w w3) := ⟨B2.out.trans (hb.mono B2.out.size)⟩; clear hb))
  go_ret
  exact ⟨rfl, B3.out⟩

theorem start_yes (addr : Int) (h0 : 0 ≤ addr) (h1 : addr ≤ 576460752303423488) (w : World) : Calls Tryd.prog 38 #[.int .i64 addr] w fun e w' => e = .returned (.bool true) ∧ w' = w := by
  go_enter Tryd.func38, Tryd.ntmps38
  go_wp2
  go_ret
  exact ⟨rfl, rfl⟩
theorem makeG (w : World) : (Instr.makeSlice 82 (.int .i64 1) (.int .i64 1)).run Tryd.prog w = .ok (.slice (some ⟨w.heap.size, 0, none⟩) 1 1) (w.alloc (.cells #[.slice none 0 0] 43)) := by kernel_rfl
theorem makeA (w : World) : (Instr.makeSlice 43 (.int .i64 0) (.int .i64 0)).run Tryd.prog w = .ok (.slice (some ⟨w.heap.size, 0, none⟩) 0 0) (w.alloc (.cells #[] 3)) := by kernel_rfl
theorem group_one (w : World) (g : Nat) (hg : g = w.heap.size) : Calls Tryd.prog 39 #[.slice none 0 0, .int .i64 1] w fun e w' => e = .returned (.slice (some ⟨g, 0, none⟩) 1 1) ∧ w' = w.alloc (.cells #[.slice none 0 0] 43) := by
  subst hg
  have hmk := makeG
  go_enter Tryd.func39, Tryd.ntmps39
  go_wp2
  go_loopw [12] (fun iv wr => iv = .int .i64 0 ∧ wr = w.alloc (.cells #[.slice none 0 0] 43)) (fun iv _ => 0)
  case atStart => exact ⟨rfl, rfl⟩
  case round =>
    obtain ⟨rfl, rfl⟩ := hrel
    go_wp2
    go_ret
    exact ⟨rfl, rfl⟩
theorem rec_len (id : Int) (m : List Int) (l : List Oq) : (recB id m l).length = recZ m l := by
  unfold recB
  simp only [List.length_append, pl_len, List.length_replicate]
  have h1 : recN m l = 4 + m.length + (writB l).length := rfl
  have h2 : recZ m l = (4 + recN m l + 7) / 8 * 8 := rfl
  omega
theorem rec_short (m : List Int) (l : List Oq) (hm : m.length ≤ 1000) : recZ m l ≤ 90000 := by
  have h1 : recN m l = 4 + m.length + (writB l).length := rfl
  have h2 : recZ m l = (4 + recN m l + 7) / 8 * 8 := rfl
  have := writB_len l
  omega

/-- Bytes, places, no error. -/
def WriEnd (l : List Int) (w : World) (e : Ending) (w' : World) : Prop := ∃ v at', e = .returned (.tuple #[v, at', .int .i64 0]) ∧ Own w' w.heap.size v l ∧ Below w.heap.size w w'
set_option maxHeartbeats 2000000 in
theorem write_one (x : Ce) (hx : x.Ok) (cb : Nat) (addr : Int) (h0 : 0 ≤ addr) (h1 : addr ≤ 576460752303423488) (w : World) (hat : CeAt w cb 0 x) (hf : Fz w) :
    Calls Tryd.prog 13 #[.slice (some ⟨cb, 0, none⟩) 1 1, .slice none 0 0, .int .i64 addr, .bool false] w (WriEnd (recB 0 (cieB x.enc) x.ini) w) := by
  have HCk : Hid (Calls Tryd.prog 15 #[.slice (some ⟨cb, 0, none⟩) 1 1, .slice none 0 0] w fun e w' => e = .returned (.int .i64 0) ∧ Below w.heap.size w w') := ⟨check_ok (some ⟨cb, 0, none⟩) 1 [x] w (.inr ⟨cb, 0, rfl, fun i hi => by
    have : i = 0 := by simpa using hi
    subst this
    exact hat⟩) (by simp) (fun y hy => by rw [List.mem_singleton.1 hy]; exact hx) hf⟩
  have HSt : Hid _ := ⟨start_yes addr h0 h1⟩
  have HF : Hid _ := ⟨hf⟩
  have HAt : Hid _ := ⟨hat⟩
  have HX : Hid _ := ⟨hx⟩
  have hmk := makeA
  clear hat hf hx
  go_enter Tryd.func13, Tryd.ntmps13
  go_upto_region 8 with (first
    | (go_at_call 15; (with_reducible refine HCk.out.mono ?_); rintro e w1 ⟨he, hb1⟩; subst he; have HB1 : Hid _ := ⟨hb1⟩; clear hb1)
    | (go_at_call 38; (with_reducible refine (HSt.out _).mono ?_); rintro e wn ⟨he, hwn⟩; subst he; subst wn))
  have HG : Hid _ := ⟨group_one⟩
  go_wp2_with
    (go_at_call 39; (with_reducible refine (HG.out _ (w1.heap.size + 1 + 1) (by simp)).mono ?_); rintro e wg ⟨he, hwg⟩; subst he; subst wg)
  have HS0 : Hid (WA w1.heap.size (((w1.alloc (.cells #[.int .i64 addr, .int .i64 0, .slice none 0 0] 81)).alloc (.cells #[] 3)).alloc (.cells #[.slice none 0 0] 43)) w1.heap.size addr [] (.slice none 0 0) ∧ Below w1.heap.size w1 (((w1.alloc (.cells #[.int .i64 addr, .int .i64 0, .slice none 0 0] 81)).alloc (.cells #[] 3)).alloc (.cells #[.slice none 0 0] 43)) ∧ Bk (((w1.alloc (.cells #[.int .i64 addr, .int .i64 0, .slice none 0 0] 81)).alloc (.cells #[] 3)).alloc (.cells #[.slice none 0 0] 43)) (w1.heap.size + 1 + 1) 43 #[.slice none 0 0]) := by
    have b1 : Below w1.heap.size w1 (((w1.alloc (.cells #[.int .i64 addr, .int .i64 0, .slice none 0 0] 81)).alloc (.cells #[] 3)).alloc (.cells #[.slice none 0 0] 43)) := by
      have b0 := (Below.refl w1.heap.size w1).alloc (Nat.le_refl _) (.cells #[.int .i64 addr, .int .i64 0, .slice none 0 0] 81)
      have b2 := b0.alloc b0.size (.cells #[] 3)
      exact b2.alloc b2.size _
    refine ⟨⟨⟨?_, Nat.le_refl _, [], Own.nil _ _, fun _ => rfl, by simp⟩, b1, ?_⟩⟩
    · have B1 := Bk.new w1 #[.int .i64 addr, .int .i64 0, .slice none 0 0] 81
      have B2 := B1.bel ((Below.refl _ _).alloc (Nat.le_refl _) (.cells #[] 3)) B1.lt
      exact B2.bel ((Below.refl _ _).alloc (Nat.le_refl _) _) B2.lt
    · have := Bk.new ((w1.alloc (.cells #[.int .i64 addr, .int .i64 0, .slice none 0 0] 81)).alloc (.cells #[] 3)) #[.slice none 0 0] 43
      simpa using this
  generalize (((w1.alloc (.cells #[.int .i64 addr, .int .i64 0, .slice none 0 0] 81)).alloc (.cells #[] 3)).alloc (.cells #[.slice none 0 0] 43)) = w2 at *
  have hR1 := rec_len 0 (cieB x.enc) x.ini
  have hR2 := rec_short (cieB x.enc) x.ini (by simp [cieB])
  generalize hRR : recB 0 (cieB x.enc) x.ini = R at *
  have HRR : Hid _ := ⟨hRR⟩
  clear hRR
  go_loopw [39] (fun iv wr => (iv = .int .i64 0 ∧ Hid (wr = w2)) ∨ (iv = .int .i64 1 ∧ Hid (∃ v, WA w1.heap.size wr w1.heap.size addr R v ∧ Below w1.heap.size w1 wr))) (fun iv _ => 1 - (intOf iv).toNat)
  case atStart => exact .inl ⟨rfl, ⟨rfl⟩⟩
  case round =>
    rcases hrel with ⟨rfl, HE⟩ | ⟨rfl, HE⟩
    · have hE := HE.out
      subst hE
      clear HE
      have hb2 : Below w.heap.size w wr := HB1.out.trans (HS0.out.2.1.mono HB1.out.size)
      obtain ⟨a, c, c0, c1, hI⟩ := HAt.out.bel hb2
      have K3 := Bk.new wr #[.int .i64 x.enc, .slice a x.ini.length c] 76
      have hb3 : Below wr.heap.size wr (wr.alloc (.cells #[.int .i64 x.enc, .slice a x.ini.length c] 76)) := (Below.refl _ _).alloc (Nat.le_refl _) _
      have A3 := HS0.out.1.bel hb3
      have G3 := HS0.out.2.2.bel hb3 HS0.out.2.2.lt
      have he := enc_of HX.out.enc
      have HCi : Hid _ := ⟨cie_any A3 (by simp) x.enc (by omega) (by omega) a c x.ini (by have := HX.out.len; omega) (hI.bel hb3) (HF.out.bel (hb2.trans (hb3.mono hb2.size)) HF.out.z) (by have := HS0.out.2.1.size; simp; omega)⟩
      rw [HRR.out] at HCi
      have H3 : Hid _ := ⟨A3⟩
      have HG3 : Hid _ := ⟨G3⟩
      have HB3 : Hid (Below w1.heap.size w1 (wr.alloc (.cells #[.int .i64 x.enc, .slice a x.ini.length c] 76))) := ⟨HS0.out.2.1.trans (hb3.mono HS0.out.2.1.size)⟩
      clear hb2 hb3 hI A3 G3 he
      go_wp2_with
        (go_at_call 40; (with_reducible refine HCi.out.mono ?_); rintro e w4 ⟨he, v4, ha4, hk4⟩; subst he; have H4 : Hid (WA w1.heap.size w4 w1.heap.size addr R v4 ∧ Below w1.heap.size w1 w4) := ⟨ha4, HB3.out.trans (hk4.bel H3.out)⟩; have G4 := hk4.bk H3.out HG3.out (by decide) (by omega); have g4 := G4.cell 0 rfl; clear ha4 hk4 G4)
      go_loopw [51] (fun iv wq => iv = .int .i64 0 ∧ Hid (WA w1.heap.size wq w1.heap.size addr R v4 ∧ Below w1.heap.size w1 wq)) (fun iv _ => 0)
      case atStart => exact ⟨rfl, H4⟩
      case round =>
        obtain ⟨rfl, H5⟩ := hrel
        go_wp2
        go_roundw
        case rel => exact .inr ⟨rfl, ⟨v4, H5.out⟩⟩
        case measure => simp [intOf]
    · obtain ⟨v4, hA4, hb4⟩ := HE.out
      have k1 := hA4.bk.cell 1 rfl
      have k2 := hA4.bk.cell 2 rfl
      have hbg : ¬ (1048576 : Int) < (R.length : Int) := by omega
      go_wp2
      go_ret3
      obtain ⟨M, hM, hML, _⟩ := hA4.own
      rw [hML (by omega)] at hM
      exact ⟨_, _, rfl, Own.lowE hM HB1.out.size, HB1.out.trans (hb4.mono HB1.out.size)⟩

theorem enum_any (n : Int) (w : World) : Calls Tryd.prog 10 #[.int .i64 n] w fun e w' => e = .returned (.int .i64 n) ∧ w' = w := by
  go_enter Tryd.func10, Tryd.ntmps10
  go_wp2
  go_ret
  exact ⟨rfl, rfl⟩
def ceU : Ce := ⟨27, kI⟩
theorem ceU_ok : ceU.Ok := ⟨by decide, by decide, by decide⟩
theorem put_live : putE 27 4096 4100 0 = 0 ∧ putL 27 4096 4100 0 = [252, 255, 255, 255] := by decide
theorem rec_live : recB 0 (cieB ceU.enc) ceU.ini = [20, 0, 0, 0, 0, 0, 0, 0, 1, 122, 82, 0, 1, 120, 16, 1, 27, 12, 7, 8, 144, 1, 0, 0] := by decide
theorem str_live : strOfNums [252, 255, 255, 255] = ⟨#[252, 255, 255, 255]⟩ := by decide

theorem write_live (w2 : World) (a2 : Option Addr) (c2 : Nat) (hI : IsOq w2 a2 c2 kI) (hf : Fz w2) :
    Calls Tryd.prog 13 #[.slice (some ⟨w2.heap.size, 0, none⟩) 1 1, .slice none 0 0, .int .i64 0, .bool false] (w2.alloc (.cells #[.int .i64 27, .slice a2 2 c2] 76)) (WriEnd [20, 0, 0, 0, 0, 0, 0, 0, 1, 122, 82, 0, 1, 120, 16, 1, 27, 12, 7, 8, 144, 1, 0, 0] (w2.alloc (.cells #[.int .i64 27, .slice a2 2 c2] 76))) := by
  have hb : Below w2.heap.size w2 (w2.alloc (.cells #[.int .i64 27, .slice a2 2 c2] 76)) := (Below.refl _ _).alloc (Nat.le_refl _) _
  have K := Bk.new w2 #[.int .i64 27, .slice a2 2 c2] 76
  have := write_one ceU ceU_ok w2.heap.size 0 (by omega) (by omega) (w2.alloc (.cells #[.int .i64 27, .slice a2 2 c2] 76)) ⟨a2, c2, K.cell 0 rfl, K.cell 1 rfl, hI.bel hb⟩ (hf.bel hb hf.z)
  rw [rec_live] at this
  exact this
set_option maxHeartbeats 2000000 in
theorem live_any (w : World) (hf : Fz w) : Calls Tryd.prog 11 #[] w fun e w' => e = .returned (.bool true) ∧ Below w.heap.size w w' := by
  have HP : Hid (Calls Tryd.prog 6 #[.int .i64 27, .int .i64 4096, .int .i64 4100, .int .i64 0] w (PutEnd 0 [252, 255, 255, 255] w)) := ⟨by
    have := pput 27 4096 4100 0 w (by omega) (by omega)
    rw [put_live.1, put_live.2] at this
    exact this⟩
  have HU : Hid (∀ w : World, Calls Tryd.prog 36 #[] w fun e w' => ∃ v, e = .returned v ∧ OwnP w' w.heap.size v kI ∧ Below w.heap.size w w') := ⟨pusual⟩
  have HF : Hid _ := ⟨hf⟩
  have HWr : Hid _ := ⟨write_live⟩
  clear hf
  go_enter Tryd.func11, Tryd.ntmps11
  go_upto_region 3 with (first
    | (go_at_call 6; (with_reducible refine HP.out.mono ?_); rintro e w1 ⟨v1, he, ho1, hb1⟩; subst he; have H1 : Hid (Own w1 w.heap.size v1 [252, 255, 255, 255] ∧ Below w.heap.size w w1) := ⟨ho1, hb1⟩; clear ho1 hb1)
    | (go_at_call 36; (with_reducible refine (HU.out _).mono ?_); rintro e w2 ⟨u2, he, ho2, hb2⟩; subst he; obtain ⟨a2, c2, hu2, hI2⟩ := ho2.is; have hu2' : u2 = .slice a2 2 c2 := hu2; subst hu2'; have H2 : Hid (Own w2 w.heap.size v1 [252, 255, 255, 255] ∧ Below w.heap.size w w2 ∧ IsOq w2 a2 c2 kI) := ⟨H1.out.1.bel hb2, H1.out.2.trans (hb2.mono H1.out.2.size), hI2⟩; clear hb2 ho2 hI2 hu2)
    | (go_at_call 13; (with_reducible refine (HWr.out _ _ _ H2.out.2.2 (HF.out.bel H2.out.2.1 HF.out.z)).mono ?_); rintro e w3 ⟨v3, t3, he, ho3, hb3⟩; subst he; have H3 : Hid (Own w3 w.heap.size v1 [252, 255, 255, 255] ∧ Below w.heap.size w w3 ∧ Own w3 0 v3 [20, 0, 0, 0, 0, 0, 0, 0, 1, 122, 82, 0, 1, 120, 16, 1, 27, 12, 7, 8, 144, 1, 0, 0]) := ⟨(H2.out.1.bel ((Below.refl _ _).alloc (Nat.le_refl _) _)).bel hb3, (H2.out.2.1.trans (((Below.refl _ _).alloc (Nat.le_refl _) _).mono H2.out.2.1.size)).trans (hb3.mono (by have := H2.out.2.1.size; simp; omega)), Own.lowE ho3 (by omega)⟩; clear ho3 hb3))
  obtain ⟨g1, k1, hv1, _, _, hr1⟩ := H3.out.1.row (by decide)
  obtain ⟨g3, k3, hv3, hk3, hk3', hr3⟩ := H3.out.2.2.row (by decide)
  have hcv := H3.out.1.bt.conv
  rw [str_live, hv1] at hcv
  have hv1' : v1 = .slice (some ⟨g1, 0, none⟩) 4 k1 := hv1
  have hv3' : v3 = .slice (some ⟨g3, 0, none⟩) 24 k3 := hv3
  have hcv' : Sem.run Tryd.prog (convert 24 9 (.slice (some ⟨g1, 0, none⟩) 4 k1)) w3 = .ok (.string ⟨#[252, 255, 255, 255]⟩) w3 := hcv
  have hc16 : w3.cell? ⟨g3, 16, none⟩ = some (.int .u8 27) := by
    rcases hr3 w3 (Below.refl _ _) with h | ⟨b, off, e, h⟩
    · exact absurd h (by decide)
    · have e1 : g3 = b := congrArg Addr.block (Option.some.inj e)
      have e2 : 16 = off + 16 := by have := congrArg Addr.off (Option.some.inj e); simp at this; omega
      have h16 : w3.cell? ⟨b, off + 16, none⟩ = some (.int .u8 27) := h 16 (by decide)
      rw [e1, e2]
      exact h16
  have HB : Hid _ := ⟨H3.out.2.1⟩
  subst hv1' hv3'
  clear hv1 hv3 hcv hr1 hr3 H1 H2 H3
  go_wp2_with (go_at_call 10; (with_reducible refine (enum_any _ _).mono ?_); rintro e wn ⟨he, hwn⟩; subst he; subst wn)
  go_ret
  exact ⟨rfl, HB.out⟩
end Go.Proofs.YtomboebfbipaaaaDoor
