/- What All answers, as a plain function; two rows of whole instructions, joined. -/
import Derived.Test.YtbcfcbnlfbhgjaaDErr
namespace Go.Proofs.Ytbcfcbnlfbhgjaa
open Go.ChangeShapes Go.WideShapes Go.ChangeAt Go.RowKit
set_option linter.unusedVariables false
set_option linter.unusedSimpArgs false

/-- One instruction behind the other, from a place on. -/
def allF (len : Nat) (bs : Nat → Int) : Nat → Nat → Except Int (List (I × Nat))
  | 0, _ => .ok []
  | f + 1, k => if k < len then instM (cut len bs k) >>= fun p => allF len bs f (k + p.2) >>= fun l => .ok ((p.1, k) :: l) else .ok []
def allM (len : Nat) (bs : Nat → Int) : Except Int (List (I × Nat)) := allF len bs len 0

theorem inst_step {L : Ln} {p : I × Nat} (h : instM L = .ok p) : 1 ≤ p.2 ∧ p.2 ≤ L.len :=
  ⟨(inst_like h ⟨fun _ _ => rfl, inst_top h⟩ (Nat.le_refl _)).2, inst_top h⟩

theorem allF_end (len : Nat) (bs : Nat → Int) (f k : Nat) (h : len ≤ k) : allF len bs f k = .ok [] := by
  cases f with
  | zero => rfl
  | succ f => unfold allF; rw [if_neg (by omega)]

theorem allF_on (len : Nat) (bs : Nat → Int) (f k : Nat) (h : k < len) : allF len bs (f + 1) k = (instM (cut len bs k) >>= fun p => allF len bs f (k + p.2) >>= fun l => .ok ((p.1, k) :: l)) := by
  show (if _ then _ else _) = _
  rw [if_pos h]

theorem allF_fuel (len : Nat) (bs : Nat → Int) : ∀ f g k, len ≤ k + f → len ≤ k + g → allF len bs f k = allF len bs g k := by
  intro f
  induction f with
  | zero => intro g k h _; rw [allF_end _ _ _ _ (by omega), allF_end _ _ _ _ (by omega)]
  | succ f ih =>
    intro g k h hg
    by_cases hk : k < len
    · cases g with
      | zero => omega
      | succ g =>
        rw [allF_on _ _ _ _ hk, allF_on _ _ _ _ hk]
        rcases hm : instM (cut len bs k) with n | p
        · rfl
        · have := (inst_step hm).1
          show (allF len bs f (k + p.2) >>= _) = (allF len bs g (k + p.2) >>= _)
          rw [ih g (k + p.2) (by omega) (by omega)]
    · rw [allF_end _ _ _ _ (by omega), allF_end _ _ _ _ (by omega)]

/-- Bytes behind bytes. -/
def joinB (la : Nat) (ba bb : Nat → Int) (i : Nat) : Int := if i < la then ba i else bb (i - la)

theorem cut_right (la lb : Nat) (ba bb : Nat → Int) (k : Nat) : cut (la + lb) (joinB la ba bb) (la + k) = cut lb bb k := by
  unfold cut
  congr 1
  · omega
  · funext i
    show joinB la ba bb (la + k + i) = bb (k + i)
    unfold joinB
    rw [if_neg (by omega)]
    congr 1
    omega

def shiftP (la : Nat) (l : List (I × Nat)) : List (I × Nat) := l.map fun p => (p.1, la + p.2)

theorem allF_right (la lb : Nat) (ba bb : Nat → Int) : ∀ f k, allF (la + lb) (joinB la ba bb) f (la + k) = (allF lb bb f k >>= fun l => .ok (shiftP la l)) := by
  intro f
  induction f with
  | zero => intro k; rfl
  | succ f ih =>
    intro k
    by_cases hk : k < lb
    · rw [allF_on _ _ _ _ (by omega), allF_on _ _ _ _ hk, cut_right]
      rcases hm : instM (cut lb bb k) with n | p
      · rfl
      · show (allF (la + lb) (joinB la ba bb) f (la + k + p.2) >>= _) = ((allF lb bb f (k + p.2) >>= _) >>= _)
        rw [show la + k + p.2 = la + (k + p.2) by omega, ih (k + p.2)]
        rcases allF lb bb f (k + p.2) with n | l <;> rfl
    · rw [allF_end _ _ _ _ (by omega), allF_end _ _ _ _ (by omega)]; rfl

theorem allF_left (la lb : Nat) (ba bb : Nat → Int) : ∀ f k (P : List (I × Nat)) g, la ≤ k + f → k ≤ la → allF la ba f k = .ok P → la + lb ≤ k + g →
    allF (la + lb) (joinB la ba bb) g k = (allF (la + lb) (joinB la ba bb) lb la >>= fun l => .ok (P ++ l)) := by
  intro f
  induction f with
  | zero =>
    intro k P g h hk hP hg
    obtain rfl : k = la := by omega
    cases hP
    rw [allF_fuel _ _ g lb k hg (by omega)]
    rcases allF (k + lb) (joinB k ba bb) lb k with n | l <;> rfl
  | succ f ih =>
    intro k P g h hk hP hg
    by_cases hl : k < la
    · rw [allF_on _ _ _ _ hl] at hP
      obtain ⟨p, h1, h2⟩ := bind_ok hP
      obtain ⟨l, h3, h4⟩ := bind_ok h2
      cases h4
      have hp := inst_step h1
      have hp2 : p.2 ≤ la - k := hp.2
      have hi : instM (cut (la + lb) (joinB la ba bb) k) = .ok p := by
        refine (inst_like h1 (n := p.2) ⟨fun i hi => ?_, ?_⟩ (Nat.le_refl _)).1
        · show joinB la ba bb (k + i) = ba (k + i)
          unfold joinB
          rw [if_pos (by omega)]
        · show p.2 ≤ la + lb - k
          omega
      cases g with
      | zero => omega
      | succ g =>
        rw [allF_on _ _ _ _ (by omega), hi]
        show (allF (la + lb) (joinB la ba bb) g (k + p.2) >>= _) = _
        rw [ih (k + p.2) l g (by omega) (by omega) h3 (by omega)]
        rcases allF (la + lb) (joinB la ba bb) lb la with n | l <;> rfl
    · obtain rfl : k = la := by omega
      rw [allF_end _ _ _ _ (by omega)] at hP
      cases hP
      rw [allF_fuel _ _ g lb k hg (by omega)]
      rcases allF (k + lb) (joinB k ba bb) lb k with n | l <;> rfl

theorem all_joined (la lb : Nat) (ba bb : Nat → Int) (P Q : List (I × Nat)) (hP : allM la ba = .ok P) (hQ : allM lb bb = .ok Q) :
    allM (la + lb) (joinB la ba bb) = .ok (P ++ shiftP la Q) := by
  unfold allM at *
  rw [allF_left la lb ba bb la 0 P (la + lb) (by omega) (by omega) hP (by omega), show allF (la + lb) (joinB la ba bb) lb la = _ from allF_right la lb ba bb lb 0, hQ]
  rfl

theorem allF_len (len : Nat) (bs : Nat → Int) : ∀ f k (P : List (I × Nat)), allF len bs f k = .ok P → k ≤ len → P.length + k ≤ len := by
  intro f
  induction f with
  | zero => intro k P h hk; cases h; simpa using hk
  | succ f ih =>
    intro k P h hk
    by_cases hl : k < len
    · rw [allF_on _ _ _ _ hl] at h
      obtain ⟨p, h1, h2⟩ := bind_ok h
      obtain ⟨l, h3, h4⟩ := bind_ok h2
      cases h4
      have hp := inst_step h1
      have hp2 : p.2 ≤ len - k := hp.2
      have := ih (k + p.2) l h3 (by omega)
      simp only [List.length_cons]
      omega
    · rw [allF_end _ _ _ _ (by omega)] at h
      cases h
      simpa using hk
theorem allF_at (len : Nat) (bs : Nat → Int) : ∀ f k (P : List (I × Nat)), allF len bs f k = .ok P → ∀ p ∈ P, k ≤ p.2 ∧ p.2 < len := by
  intro f
  induction f with
  | zero => intro k P h p hp; cases h; cases hp
  | succ f ih =>
    intro k P h p hp
    by_cases hl : k < len
    · rw [allF_on _ _ _ _ hl] at h
      obtain ⟨q, h1, h2⟩ := bind_ok h
      obtain ⟨l, h3, h4⟩ := bind_ok h2
      cases h4
      rcases List.mem_cons.1 hp with rfl | hp
      · exact ⟨Nat.le_refl _, hl⟩
      · have := ih _ _ h3 p hp
        omega
    · rw [allF_end _ _ _ _ (by omega)] at h
      cases h; cases hp
end Go.Proofs.Ytbcfcbnlfbhgjaa
