/- The contract of instruction, whole. -/
import Derived.Test.YtjbepojopfbajaaDInsC
import Derived.Test.YtjbepojopfbajaaDInsD
import Derived.Test.YtjbepojopfbajaaDInsE
import Derived.Test.YtjbepojopfbajaaDInsF
namespace Go.Proofs.Ytjbepojopfbajaa
open Go.ChangeShapes Go.WideShapes Go.ChangeAt Go.RowKit
set_option linter.unusedVariables false
set_option linter.unusedSimpArgs false

theorem nxt_ok {L : Ln} {a : Nat} {p : Int × Nat} (h : nxt L a = .ok p) : a < L.len ∧ p = (L.bs a, a + 1) := by
  unfold nxt at h; split at h
  · cases h; exact ⟨by assumption, rfl⟩
  · cases h
theorem must_ok {α : Type} {b : Bool} {k : Except Int α} {x : α} (h : must b k = .ok x) : b = true ∧ k = .ok x := by
  cases b
  · cases h
  · exact ⟨rfl, h⟩
theorem bind_ok {α β : Type} {x : Except Int α} {f : α → Except Int β} {y : β} (h : (x >>= f) = .ok y) : ∃ z, x = .ok z ∧ f z = .ok y := by
  cases x with
  | error n => cases h
  | ok z => exact ⟨z, rfl, h⟩

theorem preO_facts {L : Ln} (hb : ∀ i, 0 ≤ L.bs i ∧ L.bs i < 256) {a : Nat} {fs : Bool} {rex x : Int} (ha : a ≤ L.len) (hx : 0 ≤ x ∧ x < 256) {t : Nat × Bool × Int × Int} (h : preO L a fs rex x = .ok t) : t.1 ≤ L.len ∧ 0 ≤ t.2.2.2 ∧ t.2.2.2 < 4096 := by
  unfold preO at h
  split at h
  · obtain ⟨_, h⟩ := must_ok h
    obtain ⟨p, h1, h2⟩ := bind_ok h
    obtain ⟨hl, rfl⟩ := nxt_ok h1
    cases h2
    have hy := hb a
    have := or3840 ⟨(L.bs a).toNat, by omega⟩
    simp only [show (((L.bs a).toNat : Nat) : Int) = L.bs a by omega] at this
    simp only [this]
    omega
  · cases h; exact ⟨ha, hx.1, by show x < 4096; omega⟩
theorem preR_facts {L : Ln} (hb : ∀ i, 0 ≤ L.bs i ∧ L.bs i < 256) {a : Nat} {fs : Bool} {x : Int} (ha : a ≤ L.len) (hx : 0 ≤ x ∧ x < 256) {t : Nat × Bool × Int × Int} (h : preR L a fs x = .ok t) : t.1 ≤ L.len ∧ 0 ≤ t.2.2.2 ∧ t.2.2.2 < 4096 := by
  unfold preR at h
  split at h
  · obtain ⟨_, h⟩ := must_ok h
    obtain ⟨p, h1, h2⟩ := bind_ok h
    obtain ⟨hl, rfl⟩ := nxt_ok h1
    exact preO_facts hb (by show a + 1 ≤ _; omega) (hb a) h2
  · exact preO_facts hb ha hx h
theorem pre_facts {L : Ln} (hb : ∀ i, 0 ≤ L.bs i ∧ L.bs i < 256) {t : Nat × Bool × Int × Int} (h : pre L = .ok t) : t.1 ≤ L.len ∧ 0 ≤ t.2.2.2 ∧ t.2.2.2 < 4096 := by
  unfold pre at h
  obtain ⟨p, h1, h2⟩ := bind_ok h
  obtain ⟨hl, rfl⟩ := nxt_ok h1
  split at h2
  · obtain ⟨q, h3, h4⟩ := bind_ok h2
    obtain ⟨hl2, rfl⟩ := nxt_ok h3
    exact preR_facts hb (by omega) (hb 1) h4
  · exact preR_facts hb (by omega) (hb 0) h2
theorem setA_ok {fs : Bool} {rex sz : Int} {q : Q} {v : Value} (h : setA fs rex sz q = .ok v) : v = .tuple #[] := by
  unfold setA at h
  have h := (must_ok (must_ok (must_ok h).2).2).2
  cases h; rfl
theorem modA_ok {fs : Bool} {rex sz : Int} {q : Q} {md rg rm : Int} {t : Int × Int × Int} (h : modA fs rex sz q md rg rm = .ok t) : t = (md, rg, rm) := by
  unfold modA at h
  have h := (must_ok (must_ok (must_ok (must_ok (must_ok h).2).2).2).2).2
  cases h; rfl
theorem size_ok {rex opc : Int} {q : Q} (hr : RowFacts opc q) (ho : 0 ≤ opc) {sz : Int} (h : sizeM rex opc q = .ok sz) : (sz = 1 ∨ sz = 4 ∨ sz = 8) ∨ q.f = 87 := by
  unfold sizeM at h
  split at h
  · have := (must_ok h).2; cases this; exact .inl (.inr (.inr rfl))
  · cases h
    unfold size0
    split
    · rename_i e
      have : opc % 2 = 0 ∨ opc % 2 = 1 := by omega
      rcases this with e2 | e2 <;> rw [e2] <;> simp
    · rename_i e
      rcases hr.size with k | k | k | k | k
      · rw [k] at e; exact absurd rfl e
      · exact .inl (.inl k)
      · exact .inl (.inr (.inl k))
      · exact .inl (.inr (.inr k))
      · exact .inr k.2
theorem opK_in {opc rg : Int} {q : Q} (hr : RowFacts opc q) (ho : 0 ≤ opc) (h0 : 0 ≤ rg) (h8 : rg < 8) : 0 ≤ opK opc rg q ∧ opK opc rg q < 8 := by
  unfold opK
  split
  · rename_i e
    have := hr.sum (by simpa using e)
    omega
  · split <;> omega

theorem inst_any {w : World} {rb : Nat} {L : Ln} (h : RS w rb L 0 false 0 0 0 0 0 0) :
    Calls Try.prog 40 #[.pointer (some ⟨rb, 0, none⟩)] w fun e w' => Ends2 (instM L) I.val (fun a' => w'.cell? ⟨rb, 1, none⟩ = some (.int .i64 a')) e ∧ Fr rb rb w w' := by
  have hby := h.lies.byte
  rcases hp : pre L with n | ⟨a, fs, rex, opc⟩
  · exact ins_pre _ h n hp ⟨by unfold instM; rw [hp]; rfl⟩
  obtain ⟨ha, ho0, ho1⟩ := pre_facts hby hp
  simp only at ha ho0 ho1
  have ho2 : opc < 65536 := by omega
  have e0 : instM L = (match rowM opc with
    | none => .error 30
    | some q => sizeM rex opc q >>= fun sz => setA fs rex sz q >>= fun _ => modM L a fs rex sz q >>= fun t => opM opc t.1.2.1 q >>= fun op =>
      readM q.f L t.2 fs rex opc sz t.1.1 t.1.2.1 t.1.2.2 ⟨op, sz, condM opc q, zeroO, zeroO, false⟩) := by unfold instM; rw [hp]; rfl
  rcases hq : rowM opc with _ | q
  · exact ins_row _ h a fs rex opc hp ho0 ho2 hq ⟨by rw [e0, hq]⟩
  rw [hq] at e0
  simp only at e0
  have hr := row_facts opc ho0 ho1 q hq
  rcases hs : sizeM rex opc q with n | sz
  · exact ins_size _ h a fs rex opc hp ho0 ho2 q hq n hs ⟨by rw [e0, hs]; rfl⟩
  rw [hs] at e0
  rcases ht : setA fs rex sz q with n | v
  · exact ins_set _ h a fs rex opc hp ho0 ho2 q hq sz hs n ht ⟨by rw [e0]; show (setA fs rex sz q >>= _) = _; rw [ht]; rfl⟩
  obtain rfl := setA_ok ht
  have e1 : instM L = (modM L a fs rex sz q >>= fun t => opM opc t.1.2.1 q >>= fun op => readM q.f L t.2 fs rex opc sz t.1.1 t.1.2.1 t.1.2.2 ⟨op, sz, condM opc q, zeroO, zeroO, false⟩) := by
    rw [e0]; show (setA fs rex sz q >>= _) = _; rw [ht]; rfl
  clear e0
  have hsz := size_ok hr ho0 hs
  cases hm : q.has 2
  · have em : modM L a fs rex sz q = .ok ((0, 0, 0), a) := by unfold modM; rw [hm]; rfl
    rw [em] at e1
    have hk := opK_in hr ho0 (rg := 0) (by omega) (by omega)
    rcases hop : opM opc 0 q with n | op
    · exact ins_op0 _ h a fs rex opc hp ho0 ho2 q hq sz hs ht hm hk.1 hk.2 hr.ops ha n hop ⟨by rw [e1]; show (opM opc 0 q >>= _) = _; rw [hop]; rfl⟩
    have e2 : instM L = readM q.f L a fs rex opc sz 0 0 0 ⟨op, sz, condM opc q, zeroO, zeroO, false⟩ := by rw [e1]; show (opM opc 0 q >>= _) = _; rw [hop]; rfl
    rcases hrd : readM q.f L a fs rex opc sz 0 0 0 ⟨op, sz, condM opc q, zeroO, zeroO, false⟩ with n | ⟨i, a2⟩
    · exact ins_no0 _ h a fs rex opc hp ho0 ho2 q hq sz hs ht hm hk.1 hk.2 hr.ops ha op hop hr.fn hsz n hrd ⟨by rw [e2, hrd]⟩
    · exact ins_ok0 _ h a fs rex opc hp ho0 ho2 q hq sz hs ht hm hk.1 hk.2 hr.ops ha op hop hr.fn hsz i a2 hrd ⟨by rw [e2, hrd]⟩
  · by_cases hl : a < L.len
    · rcases hx : modA fs rex sz q (L.bs a / 64) (L.bs a / 8 % 8) (L.bs a % 8) with n | ⟨md, rg, rm⟩
      · have em : modM L a fs rex sz q = .error n := by unfold modM; rw [hm, if_pos rfl, if_pos hl, hx]; rfl
        exact ins_mod _ h a fs rex opc hp ho0 ho2 q hq sz hs ht hm hl n hx ⟨by rw [e1, em]; rfl⟩
      · have em : modM L a fs rex sz q = .ok ((md, rg, rm), a + 1) := by unfold modM; rw [hm, if_pos rfl, if_pos hl, hx]; rfl
        rw [em] at e1
        have et := modA_ok hx
        simp only [Prod.mk.injEq] at et
        obtain ⟨emd, erg, erm⟩ := et
        have hb := hby a
        have r0 : 0 ≤ rm := by omega
        have r8 : rm < 8 := by omega
        have g0 : 0 ≤ rg := by omega
        have g8 : rg < 8 := by omega
        have hk := opK_in hr ho0 g0 g8
        rcases hop : opM opc rg q with n | op
        · exact ins_op1 _ h a fs rex opc hp ho0 ho2 q hq sz hs ht hm hl md rg rm r0 r8 g0 g8 hx hk.1 hk.2 hr.ops (by omega) n hop ⟨by rw [e1]; show (opM opc rg q >>= _) = _; rw [hop]; rfl⟩
        have e2 : instM L = readM q.f L (a + 1) fs rex opc sz md rg rm ⟨op, sz, condM opc q, zeroO, zeroO, false⟩ := by rw [e1]; show (opM opc rg q >>= _) = _; rw [hop]; rfl
        rcases hrd : readM q.f L (a + 1) fs rex opc sz md rg rm ⟨op, sz, condM opc q, zeroO, zeroO, false⟩ with n | ⟨i, a2⟩
        · exact ins_no1 _ h a fs rex opc hp ho0 ho2 q hq sz hs ht hm hl md rg rm r0 r8 g0 g8 hx hk.1 hk.2 hr.ops (by omega) op hop hr.fn hsz n hrd ⟨by rw [e2, hrd]⟩
        · exact ins_ok1 _ h a fs rex opc hp ho0 ho2 q hq sz hs ht hm hl md rg rm r0 r8 g0 g8 hx hk.1 hk.2 hr.ops (by omega) op hop hr.fn hsz i a2 hrd ⟨by rw [e2, hrd]⟩
    · have em : modM L a fs rex sz q = .error 20 := by unfold modM; rw [hm, if_pos rfl, if_neg hl]
      exact ins_end _ h a fs rex opc hp ho0 ho2 q hq sz hs ht hm (by omega) ⟨by rw [e1, em]; rfl⟩
end Go.Proofs.Ytjbepojopfbajaa
