/- The document's record. -/
import Derived.Test.YtomboebfbipaaaaDoorERGetX
import Derived.Test.YtomboebfbipaaaaDoorECieX
namespace Go.Proofs.YtomboebfbipaaaaDoor
open Go.ChangeShapes Go.WideShapes Go.ChangeAt Go.RowKit Go.Maps
set_option linter.unusedVariables false
set_option linter.unusedSimpArgs false

theorem four_any (n : Int) (h0 : 0 ≤ n) (h1 : n < 4294967296) (w : World) : Calls Tryd.prog 64 #[.int .i64 n] w fun e w' => ∃ v, e = .returned v ∧ Own w' w.heap.size v (pl n 4) ∧ Below w.heap.size w w' := by
  have HP : Hid (∀ w, Calls Tryd.prog 31 #[.int .i64 n, .int .i64 4] w fun e w' => ∃ v, e = .returned (.tuple #[v, .int .i64 0]) ∧ Own w' w.heap.size v (pl n 4) ∧ Below w.heap.size w w') := ⟨rputZ 4 (by omega) n false (by
    have p2 : (2 : Int) ^ (8 * ((4 : Nat) : Int)).toNat = 4294967296 := by decide
    simp [fitsB]; omega)⟩
  go_enter Tryd.func64, Tryd.ntmps64
  go_wp2_with (go_at_call 31; (with_reducible refine (HP.out _).mono ?_); rintro e w1 ⟨v, he, ho, hb⟩; subst he)
  go_ret
  exact ⟨v, rfl, ho, hb⟩
/-- How many Nops fill up. -/
def padN (n : Nat) : Nat := (8 - (n + 4) % 8) % 8
def recR (m : List Int) : List Int := pl ((m.length + padN m.length : Nat) : Int) 4 ++ (m ++ List.replicate (padN m.length) 0)
def slen : Value → Nat
  | .slice _ n _ => n
  | _ => 0
theorem pad_no {n j : Nat} (h : j < padN n) : ((n + j) + 4) % 8 ≠ 0 := by unfold padN at h; omega
theorem pad_ok (n : Nat) : ((n + padN n) + 4) % 8 = 0 := by unfold padN; omega

set_option maxHeartbeats 2000000 in
theorem rrec_any {base : Nat} {w : World} {u : Value} {m : List Int} (ho : Own w base u m) (hbase : base ≤ w.heap.size) (hm : m.length ≤ 1000000) :
    Calls Tryd.prog 65 #[u] w fun e w' => ∃ v, e = .returned v ∧ Own w' base v (recR m) ∧ Below base w w' := by
  have hp7 : padN m.length ≤ 7 := by unfold padN; omega
  have HO : Hid _ := ⟨ho⟩
  have HF : Hid _ := ⟨four_any ((m.length + padN m.length : Nat) : Int) (by omega) (by omega)⟩
  clear ho
  go_enter Tryd.func65, Tryd.ntmps65
  go_wp2
  go_loopw [0] (fun v wr => ∃ j : Nat, j ≤ padN m.length ∧ Hid (Own wr base v (m ++ List.replicate j 0) ∧ Below base w wr) ∧ slen v = m.length + j) (fun v _ => m.length + padN m.length - slen v)
  case atStart => exact ⟨0, by omega, ⟨by simpa using HO.out, Below.refl _ _⟩, by
    obtain ⟨a, c, rfl, _⟩ := HO.out.bt
    simp [slen]⟩
  case round =>
    obtain ⟨j, hj, HV, hs⟩ := hrel
    obtain ⟨a, c, hv, _, _⟩ := HV.out.1.bt
    obtain ⟨n, hn⟩ : ∃ n, m.length + j = n := ⟨_, rfl⟩
    have hv' : u0 = .slice a n c := by rw [hv, ← hn]; simp
    subst hv'
    clear hv hs
    obtain ⟨r, hr⟩ : ∃ r, Int.tmod ((n : Int) + 4) 8 = r := ⟨_, rfl⟩
    have hrn : r = (((n + 4) % 8 : Nat) : Int) := by
      rw [← hr, Int.tmod_eq_emod_of_nonneg (by omega)]; omega
    have t2 : (n : Int) + 4 ≤ 9223372036854775807 := by omega
    by_cases hlt : j < padN m.length
    · have hne := pad_no hlt
      rw [hn] at hne
      have hr0 : r ≠ 0 := by rw [hrn]; omega
      have b1 : (r != 0) = true := by simpa using hr0
      have b2 : (r == 0) = false := by simpa using hr0
      clear hr0
      have HN : Hid (m.length + j = n) := ⟨hn⟩
      have hnb : n ≤ 1000010 := by omega
      clear hrn hn hne
      have hlen : (m ++ List.replicate j (0 : Int)).length ≤ 1000010 := by simp; have := HN.out; omega
      go_wp2_with (at_builtin; refine append_bt _ rfl _ _ rfl base _ (m ++ List.replicate j 0) rfl (HV.out.1.bel ((Below.refl _ _).alloc (Nat.le_refl _) _)) _ [0] rfl (own_lit wr 0).bt (by simp only [List.length_cons, List.length_nil]; omega) (by have := HV.out.2.size; simp; omega) ?_; intro v2 w2 ho2 hb2; have H2 : Hid (Own w2 base v2 (m ++ List.replicate (j + 1) 0) ∧ Below base w w2) := ⟨by rw [List.replicate_succ', ← List.append_assoc]; exact ho2, (HV.out.2.alloc (by have := HV.out.2.size; omega) _).trans hb2⟩; clear ho2 hb2)
      go_roundw
      case rel =>
        refine ⟨j + 1, by omega, H2, ?_⟩
        obtain ⟨a3, c3, h3, _⟩ := H2.out.1.bt
        rw [h3]
        simp [slen]
      case measure =>
        obtain ⟨a3, c3, h3, _⟩ := H2.out.1.bt
        rw [h3]
        have := HN.out
        simp [slen]
        omega
    · obtain rfl : j = padN m.length := by omega
      have h0 := pad_ok m.length
      rw [hn] at h0
      have b0 : r = 0 := by rw [hrn, h0]; rfl
      subst b0
      rw [hn] at HF
      have HN : Hid (m.length + padN m.length = n) := ⟨hn⟩
      clear hrn hn h0
      have hlen : (m ++ List.replicate (padN m.length) (0 : Int)).length ≤ 1000010 := by simp; omega
      go_wp2_with (first
        | (go_at_call 64; (with_reducible refine (HF.out _).mono ?_); rintro e w3 ⟨v3, he, ho3, hb3⟩; subst he; have H3 : Hid (Own w3 base v3 (pl (n : Int) 4) ∧ Own w3 base (.slice a n c) (m ++ List.replicate (padN m.length) 0) ∧ Below base w w3) := ⟨ho3.lowE (Nat.le_trans hbase HV.out.2.size), HV.out.1.bel hb3, HV.out.2.trans (hb3.mono (Nat.le_trans hbase HV.out.2.size))⟩; clear ho3 hb3)
        | (at_builtin; refine append_bt _ rfl _ _ rfl base _ (pl (n : Int) 4) rfl H3.out.1 _ (m ++ List.replicate (padN m.length) 0) rfl H3.out.2.1.bt (by rw [pl_len]; omega) (Nat.le_trans hbase H3.out.2.2.size) ?_; intro v4 w4 ho4 hb4; have H4 : Hid (Own w4 base v4 (recR m) ∧ Below base w w4) := ⟨by unfold recR; rw [HN.out]; exact ho4, H3.out.2.2.trans hb4⟩; clear ho4 hb4))
      go_ret
      exact ⟨v4, rfl, H4.out.1, H4.out.2⟩
/-- Both records are the same. -/
theorem rec_both (id : Int) (body : List Int) (l : List Oq) : recR (pl id 4 ++ body ++ writB l) = recB id body l := by
  have h1 : recN body l = 4 + body.length + (writB l).length := rfl
  have h2 : recZ body l = (4 + recN body l + 7) / 8 * 8 := rfl
  have hl : (pl id 4 ++ body ++ writB l).length = recN body l := by
    simp only [List.length_append, pl_len]; omega
  unfold recR recB
  rw [hl]
  have hp : padN (recN body l) = recZ body l - 4 - recN body l := by unfold padN; omega
  have hq : ((recN body l + padN (recN body l) : Nat) : Int) = (recZ body l : Int) - 4 := by unfold padN; omega
  rw [hq, hp]
  simp only [List.append_assoc]
end Go.Proofs.YtomboebfbipaaaaDoor
