/- The writer: bytes are added, a number of four bytes. A record is written. A common entry is written. -/
import Derived.Test.YtomboebfbipaaaaDoorEGetX
import Derived.Test.YtomboebfbipaaaaDoorCPWX
import Derived.Test.YtomboebfbipaaaaDoorLebD
import Derived.Deep.OwnRows
import Derived.Lib.AppendStr
namespace Go.Proofs.YtomboebfbipaaaaDoor
open Go.ChangeShapes Go.WideShapes Go.ChangeAt Go.RowKit Go.Maps
set_option linter.unusedVariables false
set_option linter.unusedSimpArgs false

/-- A writer lies in block tb: its address, how many bytes it counts (L's), the bytes themselves as long as they are not too many. -/
structure WA (base : Nat) (w : World) (tb : Nat) (addr : Int) (L : List Int) (v : Value) : Prop where
  bk : Bk w tb 81 #[.int .i64 addr, .int .i64 (L.length : Int), v]
  lo : base ≤ tb
  own : ∃ M : List Int, Own w base v M ∧ (L.length ≤ 1048576 → M = L) ∧ M.length ≤ 1048576
/-- Nothing but the writer's block and its bytes has turned. -/
structure WK (w w' : World) (tb : Nat) (v v' : Value) : Prop where
  os : w'.os = w.os
  tape : w'.tape = w.tape
  output : w'.output = w.output
  size : w.heap.size ≤ w'.heap.size
  kp : ∀ k, k < w.heap.size → k ≠ tb → v.ownBlock ≠ some k → w'.heap[k]? = w.heap[k]?
  nb : v'.ownBlock = v.ownBlock ∨ ∀ k, v'.ownBlock = some k → w.heap.size ≤ k
section
variable {w w1 w2 : World} {tb base : Nat} {v v1 v2 : Value}
theorem WK.of_bel (h : Below w.heap.size w w1) : WK w w1 tb v v := ⟨h.os, h.tape, h.output, h.size, fun k hk _ _ => h.block k hk, .inl rfl⟩
theorem WK.trans (h : WK w w1 tb v v1) (g : WK w1 w2 tb v1 v2) : WK w w2 tb v v2 := by
  refine ⟨g.os.trans h.os, g.tape.trans h.tape, g.output.trans h.output, Nat.le_trans h.size g.size, fun k hk hn hv => ?_, ?_⟩
  · rw [g.kp k (Nat.lt_of_lt_of_le hk h.size) hn (fun e => ?_)]
    · exact h.kp k hk hn hv
    · rcases h.nb with e2 | e2
      · exact hv (e2 ▸ e)
      · have := e2 k e; omega
  · rcases g.nb with e | e
    · rcases h.nb with e2 | e2
      · exact .inl (e.trans e2)
      · exact .inr fun k hk => e2 k (e ▸ hk)
    · exact .inr fun k hk => Nat.le_trans h.size (e k hk)
theorem Own.lt' {xs : List Int} (h : Own w base v xs) : ∀ k, v.ownBlock = some k → base ≤ k ∧ k < w.heap.size ∧ ∃ cur, w.heap[k]? = some (.cells cur 5 (0, 0)) := by
  intro k hk
  rcases h.2 with ⟨rfl, _⟩ | ⟨g, cap, cur, rfl, h1, h2, _⟩
  · simp [Value.ownBlock] at hk
  · simp [Value.ownBlock] at hk
    subst hk
    exact ⟨h1, (Array.getElem?_eq_some_iff.1 h2).1, cur, h2⟩
theorem WK.bel {addr : Int} {L : List Int} (h : WK w w1 tb v v1) (hA : WA base w tb addr L v) : Below base w w1 := by
  obtain ⟨M, hM, _⟩ := hA.own
  refine ⟨h.os, h.tape, h.output, h.size, fun k hk => ?_⟩
  have := hA.bk.lt
  have := hA.lo
  exact h.kp k (by omega) (by omega) (fun e => by have := (hM.lt' k e).1; omega)
theorem Own.not_bk {xs : List Int} {k t : Nat} {cs : Array Value} (h : Own w base v xs) (hB : Bk w k t cs) (ht : t ≠ 5) : v.ownBlock ≠ some k := fun e => by
  obtain ⟨_, _, cur, hc⟩ := h.lt' k e
  have := hc.symm.trans hB.hp
  injection this with this
  injection this with _ e2 _
  exact ht e2.symm
theorem WK.bk {addr : Int} {L : List Int} (h : WK w w1 tb v v1) (hA : WA base w tb addr L v) {k t : Nat} {cs : Array Value} (hB : Bk w k t cs) (ht : t ≠ 5) (hk : k ≠ tb) : Bk w1 k t cs := by
  obtain ⟨M, hM, _⟩ := hA.own
  exact hB.of (h.kp k hB.lt hk (hM.not_bk hB ht))
/-- Other bytes, apart from the writer's. -/
theorem WK.row {addr : Int} {L : List Int} (h : WK w w1 tb v v1) (hA : WA base w tb addr L v) {b : Nat} {u : Value} {m : List Int} (ho : Own w b u m) (hd : ∀ k, u.ownBlock = some k → v.ownBlock ≠ some k) :
    Own w1 b u m ∧ ∀ k, u.ownBlock = some k → v1.ownBlock ≠ some k := by
  refine ⟨?_, fun k hk e => ?_⟩
  · rcases ho with ⟨h1, h2⟩
    refine ⟨h1, ?_⟩
    rcases h2 with h2 | ⟨g, cap, cur, rfl, h3, h4, h5⟩
    · exact .inl h2
    · refine .inr ⟨g, cap, cur, rfl, h3, ?_, h5⟩
      have hlt : g < w.heap.size := (Array.getElem?_eq_some_iff.1 h4).1
      rw [h.kp g hlt ?_ (hd g rfl)]
      · exact h4
      · intro e
        subst e
        have := h4.symm.trans hA.bk.hp
        injection this with this
        injection this with _ e2 _
        exact absurd e2 (by decide)
  · rcases h.nb with e2 | e2
    · exact hd k hk (e2 ▸ e)
    · have := e2 k e
      have := (ho.lt' k hk).2.1
      omega
theorem WK.of_set (b : Nat) (V : Array Value) : WK w (w.setRow b V) b v v :=
  ⟨rfl, rfl, rfl, (grown_set w b V).size, fun k hk hn _ => setRow_other _ _ _ _ hn, .inl rfl⟩
theorem WK.of_ae {ys : List Int} (h : AE base w v w1 v1 ys) : WK w w1 tb v v1 :=
  ⟨h.gr.os, h.gr.tape, h.gr.output, h.gr.size, fun k hk _ hv => h.gr.block k hk (fun e => hv e.symm), h.bk⟩
end
theorem set1 {w : World} {tb t : Nat} {a b c d : Value} (h : Bk w tb t #[a, b, c]) : w.setCell ⟨tb, 1, none⟩ d = w.setRow tb #[a, d, c] := by
  have := setCell_eq_setRow w tb 1 _ t (0, 0) d h.hp
  rw [this]; rfl
theorem set2 {w : World} {tb t : Nat} {a b c d : Value} (h : Bk w tb t #[a, b, c]) : w.setCell ⟨tb, 2, none⟩ d = w.setRow tb #[a, b, d] := by
  have := setCell_eq_setRow w tb 2 _ t (0, 0) d h.hp
  rw [this]; rfl

set_option maxHeartbeats 1000000 in
theorem add_any {base : Nat} {w : World} {tb : Nat} {addr : Int} {L : List Int} {v : Value} (hA : WA base w tb addr L v) (hL : L.length ≤ 1125899906842624) {b : Nat} {u : Value} {m : List Int} (ho : Own w b u m) (hd : ∀ k, u.ownBlock = some k → v.ownBlock ≠ some k) (hm : m.length ≤ 16777216) (hbase : base ≤ w.heap.size) :
    Calls Tryd.prog 42 #[.pointer (some ⟨tb, 0, none⟩), u] w fun e w' => e = .returned (.tuple #[]) ∧ ∃ v', WA base w' tb addr (L ++ m) v' ∧ WK w w' tb v v' := by
  obtain ⟨ao, cp, rfl, hbr, hbn⟩ := ho.bt
  obtain ⟨M, hM, hML, hM1⟩ := hA.own
  have K := hA.bk
  have c1 := K.cell 1 rfl
  have c2 := K.cell 2 rfl
  have fr := K.fro
  have HA : Hid _ := ⟨hA⟩
  have HO : Hid _ := ⟨ho⟩
  have HD : Hid _ := ⟨hd⟩
  have HMo : Hid _ := ⟨hM⟩
  have HML : Hid _ := ⟨hML⟩
  have hlen : ((L ++ m).length : Int) = (L.length : Int) + (m.length : Int) := by simp
  have b0 : (L.length : Int) + (m.length : Int) ≤ 9223372036854775807 := by omega
  clear hbr hbn hA ho hd hM hML
  go_enter Tryd.func42, Tryd.ntmps42
  go_upto_region 1 with (fail)
  rw [set1 K]
  have K1 : Bk (w.setRow tb #[.int .i64 addr, .int .i64 ((L.length : Int) + (m.length : Int)), v]) tb 81 #[.int .i64 addr, .int .i64 ((L.length : Int) + (m.length : Int)), v] := K.setR _
  have Q1 : WK w (w.setRow tb #[.int .i64 addr, .int .i64 ((L.length : Int) + (m.length : Int)), v]) tb v v := WK.of_set _ _
  have hnb := HMo.out.not_bk K (by decide)
  have HM1 : Hid (Own (w.setRow tb #[.int .i64 addr, .int .i64 ((L.length : Int) + (m.length : Int)), v]) base v M) := ⟨own_far HMo.out (grown_set w tb _) (Ne.symm hnb)⟩
  generalize w.setRow tb #[.int .i64 addr, .int .i64 ((L.length : Int) + (m.length : Int)), v] = w1 at *
  have HO1 : Hid _ := ⟨(Q1.row HA.out HO.out HD.out).1⟩
  have HQ1 : Hid _ := ⟨Q1⟩
  have HK1 : Hid _ := ⟨K1⟩
  have HNB : Hid _ := ⟨hnb⟩
  clear c1 c2 fr K Q1 hnb
  have c1 := K1.cell 1 rfl
  have c2 := K1.cell 2 rfl
  have fr := K1.fro
  clear K1
  by_cases hbig : (L.length : Int) + (m.length : Int) ≤ 1048576
  · go_wp2_with (at_builtin; refine append_bk _ rfl _ _ rfl base v M rfl HM1.out _ m rfl HO1.out.bt (by omega) (Nat.le_trans hbase HQ1.out.size) ?_; intro v' w2 hAE; obtain ⟨a', cp', rfl, _, _⟩ := hAE.own.bt; have K2 := HK1.out.of (hAE.gr.block tb HK1.out.lt (fun e => HNB.out e.symm)); have HAE : Hid _ := ⟨hAE⟩; have HK2 : Hid _ := ⟨K2⟩; clear c1 c2 fr hAE; have c2 := K2.cell 2 rfl; have fr := K2.fro; clear K2)
    rw [set2 HK2.out]
    go_end0
    have hML := HML.out (by omega)
    subst hML
    have Q2 : WK w w2 tb v (.slice a' (M ++ m).length cp') := HQ1.out.trans (WK.of_ae HAE.out)
    have hn2 := HAE.out.own.not_bk HK2.out (by decide)
    refine ⟨rfl, _, ⟨?_, HA.out.lo, M ++ m, own_far HAE.out.own (grown_set _ tb _) (Ne.symm hn2), fun _ => rfl, by simp; omega⟩, Q2.trans (WK.of_set _ _)⟩
    rw [hlen, List.length_append]
    exact HK2.out.setR _
  · have hbig' : ¬ (L.length : Int) + (m.length : Int) ≤ 1048576 := hbig
    go_wp2
    go_end0
    refine ⟨rfl, _, ⟨?_, HA.out.lo, M, HM1.out, fun e => absurd e (by simp; omega), hM1⟩, HQ1.out⟩
    rw [hlen]
    exact HK1.out
theorem word_any (n : Int) (h0 : 0 ≤ n) (h1 : n < 4294967296) (w : World) : Calls Tryd.prog 81 #[.int .i64 n] w fun e w' => ∃ v, e = .returned v ∧ Own w' w.heap.size v (pl n 4) ∧ Below w.heap.size w w' := by
  have HP : Hid (∀ w, Calls Tryd.prog 53 #[.int .i64 n, .int .i64 4] w fun e w' => ∃ v, e = .returned (.tuple #[v, .int .i64 0]) ∧ Own w' w.heap.size v (pl n 4) ∧ Below w.heap.size w w') := ⟨putZ 4 (by omega) n false (by
    have p2 : (2 : Int) ^ (8 * ((4 : Nat) : Int)).toNat = 4294967296 := by decide
    simp [fitsB]; omega)⟩
  go_enter Tryd.func81, Tryd.ntmps81
  go_wp2_with (go_at_call 53; (with_reducible refine (HP.out _).mono ?_); rintro e w1 ⟨v, he, ho, hb⟩; subst he)
  go_ret
  exact ⟨v, rfl, ho, hb⟩
/-- A record: its length and id ahead, its ops and Nops behind. -/
def recN (body : List Int) (l : List Oq) : Nat := 4 + body.length + (writB l).length
def recZ (body : List Int) (l : List Oq) : Nat := (4 + recN body l + 7) / 8 * 8
def recB (id : Int) (body : List Int) (l : List Oq) : List Int := pl ((recZ body l : Int) - 4) 4 ++ pl id 4 ++ body ++ writB l ++ List.replicate (recZ body l - 4 - recN body l) 0

theorem make5 (n : Nat) (hn : n ≤ 1048576) (w : World) : (Instr.makeSlice 24 (.int .i64 (n : Int)) (.int .i64 (n : Int))).run Tryd.prog w = .ok (.slice (some ⟨w.heap.size, 0, none⟩) n n) (w.alloc (.cells (Array.replicate n (Value.int .u8 0)) 5)) := by
  rw [run_make_row' 24 5 (.int .u8 0) 1 Tryd.underlying24 info5 rfl .i64 .i64 n (by omega) (by omega) w]
  congr 2
  congr 1
  apply Array.ext
  · simp [madeCells]
  · intro i h1 h2
    simp [madeCells, Nat.mod_one]
theorem own_zero (w : World) (n : Nat) (hn : n ≤ 1048576) : Own (w.alloc (.cells (Array.replicate n (Value.int .u8 0)) 5)) w.heap.size (.slice (some ⟨w.heap.size, 0, none⟩) n n) (List.replicate n 0) :=
  ⟨by simp, .inr ⟨w.heap.size, n, _, by simp, Nat.le_refl _, heap_alloc_new w _, by simp, by unfold maxLen; omega, by simp, by simp⟩⟩
/-- Bytes that lie apart from the writer's. -/
structure Ap (w : World) (b : Nat) (u : Value) (m : List Int) (v : Value) : Prop where
  own : Own w b u m
  ap : ∀ k, u.ownBlock = some k → v.ownBlock ≠ some k
section
variable {base b tb : Nat} {w w1 w2 : World} {u v v1 : Value} {m L : List Int} {addr : Int}
theorem Ap.wk (h : Ap w b u m v) (g : WK w w1 tb v v1) (hA : WA base w tb addr L v) : Ap w1 b u m v1 := ⟨(g.row hA h.own h.ap).1, (g.row hA h.own h.ap).2⟩
theorem Ap.bel (h : Ap w b u m v) (g : Below w.heap.size w w1) : Ap w1 b u m v := ⟨h.own.bel g, h.ap⟩
theorem WA.bel (h : WA base w tb addr L v) (g : Below w.heap.size w w1) : WA base w1 tb addr L v := by
  obtain ⟨M, h1, h2, h3⟩ := h.own
  exact ⟨h.bk.bel g h.bk.lt, h.lo, M, h1.bel g, h2, h3⟩
theorem Ap.new (hA : WA base w tb addr L v) (ho : Own w1 w.heap.size u m) : Ap w1 w.heap.size u m v := ⟨ho, fun k hk e => by
  obtain ⟨M, h1, _⟩ := hA.own
  have := (h1.lt' k e).2.1
  have := (ho.lt' k hk).1
  omega⟩
end
theorem align8 (n : Int) (h0 : 0 ≤ n) (h1 : n ≤ 1000000000) : alignV n 8 = (n + 7) / 8 * 8 := by
  have hp : powB 8 = true := by decide
  have he : alignE n 8 = 0 := by unfold alignE; rw [if_pos hp, if_neg (by omega)]
  unfold alignV; rw [if_pos he]
  rw [show n + 8 - 1 = n + 7 by omega]

set_option maxHeartbeats 2000000 in
theorem record_any {base : Nat} {w : World} {tb : Nat} {addr : Int} {L : List Int} {v : Value} (hA : WA base w tb addr L v) (hL : L.length ≤ 1000000000000000) (id : Int) (hi0 : 0 ≤ id) (hi1 : id < 4294967296) {b : Nat} {u : Value} {m : List Int} (ho : Ap w b u m v) (hm : m.length ≤ 1000)
    (ao : Option Addr) (c : Nat) (l : List Oq) (hl : l.length ≤ 5864062014634) (hI : IsOq w ao c l) (hf : Fz w) (hbase : base ≤ w.heap.size) :
    Calls Tryd.prog 62 #[.pointer (some ⟨tb, 0, none⟩), .int .i64 id, u, .slice ao l.length c] w fun e w' => e = .returned (.tuple #[]) ∧ ∃ v', WA base w' tb addr (L ++ recB id m l) v' ∧ WK w w' tb v v' := by
  have HW : Hid _ := ⟨pwrite ao c l w hl hI hf⟩
  have hwl := writB_len l
  have hrN : recN m l = 4 + m.length + (writB l).length := rfl
  have hrZ : recZ m l = (4 + recN m l + 7) / 8 * 8 := rfl
  have hrB : recB id m l = pl ((recZ m l : Int) - 4) 4 ++ pl id 4 ++ m ++ writB l ++ List.replicate (recZ m l - 4 - recN m l) 0 := rfl
  obtain ⟨F, hF⟩ : ∃ F, recZ m l - 4 - recN m l = F := ⟨_, rfl⟩
  rw [hrB, hF]
  have hAl : alignV (4 + (recN m l : Int)) 8 = (recZ m l : Int) := by rw [align8 _ (by omega) (by omega)]; omega
  have HAl : Hid _ := ⟨fun w => align_any (4 + (recN m l : Int)) 8 w⟩
  rw [hAl] at HAl
  have hN : 4 + (m.length : Int) + ((writB l).length : Int) = (recN m l : Int) := by omega
  have hFI : (recZ m l : Int) - 4 - (recN m l : Int) = (F : Int) := by omega
  have hmk : ∀ w, (Instr.makeSlice 24 (.int .i64 (F : Int)) (.int .i64 (F : Int))).run Tryd.prog w = .ok (.slice (some ⟨w.heap.size, 0, none⟩) F F) (w.alloc (.cells (Array.replicate F (Value.int .u8 0)) 5)) := make5 F (by omega)
  have HWz : Hid _ := ⟨word_any ((recZ m l : Int) - 4) (by omega) (by omega)⟩
  have HWi : Hid _ := ⟨word_any id hi0 hi1⟩
  have hF7 : F ≤ 7 := by omega
  have z0 : 4 ≤ (recZ m l : Int) := by omega
  have z1 : (recZ m l : Int) ≤ 1000000 := by omega
  have n0 : (recN m l : Int) ≤ 1000000 := by omega
  have n1 : (0 : Int) ≤ (recN m l : Int) := by omega
  obtain ⟨um, hum, hur⟩ : ∃ q : Option Addr × Nat, u = .slice q.1 m.length q.2 ∧ True := by
    obtain ⟨x, y, rfl, _⟩ := ho.own.bt
    exact ⟨(x, y), rfl, trivial⟩
  obtain ⟨ux, uy⟩ := um
  dsimp only at hum
  subst hum
  have HA : Hid _ := ⟨hA⟩
  have HO : Hid _ := ⟨ho⟩
  clear hA ho hI hf hrN hrZ hrB hAl hF hur
  generalize (recZ m l : Int) = Z at *
  generalize (recN m l : Int) = N at *
  generalize alignE (4 + N) 8 = AE1 at *
  generalize hB : writB l = B at *
  go_enter Tryd.func62, Tryd.ntmps62
  go_upto_region 4 with (first
    | (go_at_call 79; (with_reducible refine HW.out.mono ?_); rintro e w1 ⟨o, he, hw1, hb1⟩; subst he; obtain ⟨oa, oc, rfl, _, _⟩ := hw1.bt; have H1 : Hid (WA base w1 tb addr L v ∧ Ap w1 b (.slice ux m.length uy) m v ∧ Ap w1 w.heap.size (.slice oa B.length oc) B v ∧ WK w w1 tb v v) := ⟨HA.out.bel hb1, HO.out.bel hb1, Ap.new HA.out hw1, WK.of_bel hb1⟩; clear hw1 hb1)
    | (go_at_call 80; (with_reducible refine (HAl.out _).mono ?_); rintro e wn ⟨he, hwn⟩; subst he; subst wn))
  have H2 : Hid (WA base (w1.alloc (.cells (Array.replicate F (Value.int .u8 0)) 5)) tb addr (L) v ∧ Ap (w1.alloc (.cells (Array.replicate F (Value.int .u8 0)) 5)) b (.slice ux m.length uy) m v ∧ Ap (w1.alloc (.cells (Array.replicate F (Value.int .u8 0)) 5)) w.heap.size (.slice oa B.length oc) B v ∧ Ap (w1.alloc (.cells (Array.replicate F (Value.int .u8 0)) 5)) w1.heap.size (.slice (some ⟨w1.heap.size, 0, none⟩) F F) (List.replicate F 0) v ∧ WK w (w1.alloc (.cells (Array.replicate F (Value.int .u8 0)) 5)) tb v v) := by
    have hb : Below w1.heap.size w1 (w1.alloc (.cells (Array.replicate F (Value.int .u8 0)) 5)) := (Below.refl _ _).alloc (Nat.le_refl _) _
    exact ⟨H1.out.1.bel hb, H1.out.2.1.bel hb, H1.out.2.2.1.bel hb, Ap.new H1.out.1 (own_zero w1 F (by omega)), H1.out.2.2.2.trans (WK.of_bel hb)⟩
  have hsz : base ≤ (w1.alloc (.cells (Array.replicate F (Value.int .u8 0)) 5)).heap.size := Nat.le_trans hbase H2.out.2.2.2.2.size
  generalize (w1.alloc (.cells (Array.replicate F (Value.int .u8 0)) 5)) = w2 at *
  clear H1 HW
  have hsz0 := hsz
  have hm1 : m.length ≤ 16777216 := by omega
  have hm2 : B.length ≤ 16777216 := by omega
  have hm3 : (List.replicate F (0 : Int)).length ≤ 16777216 := by simp; omega
  go_upto_region 5 with (first
    | (go_at_call 81; (with_reducible refine (HWz.out _).mono ?_); rintro e x1 ⟨o1, he, hw1, hb1⟩; subst he; have G1 : Hid (WA base x1 tb addr (L) v ∧ Ap x1 b (.slice ux m.length uy) m v ∧ Ap x1 w.heap.size (.slice oa B.length oc) B v ∧ Ap x1 w1.heap.size (.slice (some ⟨w1.heap.size, 0, none⟩) F F) (List.replicate F 0) v ∧ WK w x1 tb v v ∧ Ap x1 w2.heap.size o1 (pl (Z - 4) 4) v ∧ base ≤ x1.heap.size) := ⟨H2.out.1.bel hb1, H2.out.2.1.bel hb1, H2.out.2.2.1.bel hb1, H2.out.2.2.2.1.bel hb1, H2.out.2.2.2.2.trans (WK.of_bel hb1), Ap.new H2.out.1 hw1, Nat.le_trans hsz0 hb1.size⟩; clear hw1 hb1)
    | (go_at_call 42; (with_reducible refine (add_any G1.out.1 (by first | omega | (simp only [List.length_append, pl_len]; omega)) G1.out.2.2.2.2.2.1.own G1.out.2.2.2.2.2.1.ap (by rw [pl_len]; omega) G1.out.2.2.2.2.2.2).mono ?_); rintro e y1 ⟨he, vv1, ha1, hk1⟩; subst he; have S1 : Hid (WA base y1 tb addr (L ++ pl (Z - 4) 4) vv1 ∧ Ap y1 b (.slice ux m.length uy) m vv1 ∧ Ap y1 w.heap.size (.slice oa B.length oc) B vv1 ∧ Ap y1 w1.heap.size (.slice (some ⟨w1.heap.size, 0, none⟩) F F) (List.replicate F 0) vv1 ∧ WK w y1 tb v vv1) := ⟨ha1, G1.out.2.1.wk hk1 G1.out.1, G1.out.2.2.1.wk hk1 G1.out.1, G1.out.2.2.2.1.wk hk1 G1.out.1, G1.out.2.2.2.2.1.trans hk1⟩; have hsz1 : base ≤ y1.heap.size := Nat.le_trans G1.out.2.2.2.2.2.2 hk1.size; clear ha1 hk1))
  go_upto_region 6 with (first
    | (go_at_call 81; (with_reducible refine (HWi.out _).mono ?_); rintro e x2 ⟨o2, he, hw2, hb2⟩; subst he; have G2 : Hid (WA base x2 tb addr (L ++ pl (Z - 4) 4) vv1 ∧ Ap x2 b (.slice ux m.length uy) m vv1 ∧ Ap x2 w.heap.size (.slice oa B.length oc) B vv1 ∧ Ap x2 w1.heap.size (.slice (some ⟨w1.heap.size, 0, none⟩) F F) (List.replicate F 0) vv1 ∧ WK w x2 tb v vv1 ∧ Ap x2 y1.heap.size o2 (pl id 4) vv1 ∧ base ≤ x2.heap.size) := ⟨S1.out.1.bel hb2, S1.out.2.1.bel hb2, S1.out.2.2.1.bel hb2, S1.out.2.2.2.1.bel hb2, S1.out.2.2.2.2.trans (WK.of_bel hb2), Ap.new S1.out.1 hw2, Nat.le_trans hsz1 hb2.size⟩; clear hw2 hb2)
    | (go_at_call 42; (with_reducible refine (add_any G2.out.1 (by first | omega | (simp only [List.length_append, pl_len]; omega)) G2.out.2.2.2.2.2.1.own G2.out.2.2.2.2.2.1.ap (by rw [pl_len]; omega) G2.out.2.2.2.2.2.2).mono ?_); rintro e y2 ⟨he, vv2, ha2, hk2⟩; subst he; have S2 : Hid (WA base y2 tb addr (L ++ pl (Z - 4) 4 ++ pl id 4) vv2 ∧ Ap y2 b (.slice ux m.length uy) m vv2 ∧ Ap y2 w.heap.size (.slice oa B.length oc) B vv2 ∧ Ap y2 w1.heap.size (.slice (some ⟨w1.heap.size, 0, none⟩) F F) (List.replicate F 0) vv2 ∧ WK w y2 tb v vv2) := ⟨ha2, G2.out.2.1.wk hk2 G2.out.1, G2.out.2.2.1.wk hk2 G2.out.1, G2.out.2.2.2.1.wk hk2 G2.out.1, G2.out.2.2.2.2.1.trans hk2⟩; have hsz2 : base ≤ y2.heap.size := Nat.le_trans G2.out.2.2.2.2.2.2 hk2.size; clear ha2 hk2))
  go_upto_region 7 with
    (go_at_call 42; (with_reducible refine (add_any S2.out.1 (by first | omega | (simp only [List.length_append, pl_len, List.length_replicate]; omega)) S2.out.2.1.own S2.out.2.1.ap hm1 hsz2).mono ?_); rintro e y3 ⟨he, vv3, ha3, hk3⟩; subst he; have S3 : Hid (WA base y3 tb addr (L ++ pl (Z - 4) 4 ++ pl id 4 ++ m) vv3 ∧ Ap y3 b (.slice ux m.length uy) m vv3 ∧ Ap y3 w.heap.size (.slice oa B.length oc) B vv3 ∧ Ap y3 w1.heap.size (.slice (some ⟨w1.heap.size, 0, none⟩) F F) (List.replicate F 0) vv3 ∧ WK w y3 tb v vv3) := ⟨ha3, S2.out.2.1.wk hk3 S2.out.1, S2.out.2.2.1.wk hk3 S2.out.1, S2.out.2.2.2.1.wk hk3 S2.out.1, S2.out.2.2.2.2.trans hk3⟩; have hsz3 : base ≤ y3.heap.size := Nat.le_trans hsz2 hk3.size; clear ha3 hk3)
  go_upto_region 8 with
    (go_at_call 42; (with_reducible refine (add_any S3.out.1 (by first | omega | (simp only [List.length_append, pl_len, List.length_replicate]; omega)) S3.out.2.2.1.own S3.out.2.2.1.ap hm2 hsz3).mono ?_); rintro e y4 ⟨he, vv4, ha4, hk4⟩; subst he; have S4 : Hid (WA base y4 tb addr (L ++ pl (Z - 4) 4 ++ pl id 4 ++ m ++ B) vv4 ∧ Ap y4 b (.slice ux m.length uy) m vv4 ∧ Ap y4 w.heap.size (.slice oa B.length oc) B vv4 ∧ Ap y4 w1.heap.size (.slice (some ⟨w1.heap.size, 0, none⟩) F F) (List.replicate F 0) vv4 ∧ WK w y4 tb v vv4) := ⟨ha4, S3.out.2.1.wk hk4 S3.out.1, S3.out.2.2.1.wk hk4 S3.out.1, S3.out.2.2.2.1.wk hk4 S3.out.1, S3.out.2.2.2.2.trans hk4⟩; have hsz4 : base ≤ y4.heap.size := Nat.le_trans hsz3 hk4.size; clear ha4 hk4)
  go_wp2_with
    (go_at_call 42; (with_reducible refine (add_any S4.out.1 (by first | omega | (simp only [List.length_append, pl_len, List.length_replicate]; omega)) S4.out.2.2.2.1.own S4.out.2.2.2.1.ap hm3 hsz4).mono ?_); rintro e y5 ⟨he, vv5, ha5, hk5⟩; subst he; have S5 : Hid (WA base y5 tb addr (L ++ pl (Z - 4) 4 ++ pl id 4 ++ m ++ B ++ List.replicate F 0) vv5 ∧ Ap y5 b (.slice ux m.length uy) m vv5 ∧ Ap y5 w.heap.size (.slice oa B.length oc) B vv5 ∧ Ap y5 w1.heap.size (.slice (some ⟨w1.heap.size, 0, none⟩) F F) (List.replicate F 0) vv5 ∧ WK w y5 tb v vv5) := ⟨ha5, S4.out.2.1.wk hk5 S4.out.1, S4.out.2.2.1.wk hk5 S4.out.1, S4.out.2.2.2.1.wk hk5 S4.out.1, S4.out.2.2.2.2.trans hk5⟩; have hsz5 : base ≤ y5.heap.size := Nat.le_trans hsz4 hk5.size; clear ha5 hk5)
  go_end0
  refine ⟨rfl, vv5, ?_, S5.out.2.2.2.2⟩
  have := S5.out.1
  simp only [List.append_assoc] at this ⊢
  exact this

/-- A name's bytes. -/
def bts (s : ByteArray) : List Int := s.data.toList.map fun c => (c.toNat : Int)
theorem bts_len (s : ByteArray) : (bts s).length = s.size := by simp [bts]
theorem bts_cells (s : ByteArray) : (bts s).map (Value.int .u8) = Lib.strCells s := by simp [bts, Lib.strCells, Function.comp_def]
theorem append_str {ops : Array Oper} {rest : List Oper} {o : Oper} {a : Act} {Q : Exit → Act → World → Prop} (w : World) (hgd : o.guard = none) (sl x : Operand)
    (ho : o.op = .call { callee := .builtin .append, args := #[sl, x], argTypes := #[24, 9] })
    (base : Nat) (v : Value) (xs : List Int) (hs : a.eval sl = v) (hown : Own w base v xs) (s : ByteArray) (hx : a.eval x = .string s)
    (hn : xs.length + s.size ≤ 140737488355328) (hbase : base ≤ w.heap.size)
    (h : ∀ v' w', Own w' base v' (xs ++ bts s) → Below base w w' → wpList Tryd.prog ops Q rest (a.put o.dst v') w') :
    wpList Tryd.prog ops Q (o :: rest) a w := by
  obtain ⟨i0, hi, hz0, hz1, hz2⟩ := info_parts info5
  refine Lib.wpList_append_own_string _ hgd sl x 24 9 ho base 5 i0 Tryd.underlying24 Tryd.underlying9 hi hz0 hz1 hz2 v xs.length _ hs hown s hx (by unfold maxLen; omega) hn hbase ?_
  intro v' w' hown' hgrow _
  refine h v' w' ?_ ((Below.refl base w).grown hgrow hbase (own_block hown))
  unfold Own
  rw [List.map_append, bts_cells, List.length_append, bts_len]
  exact hown'
theorem own_lit3 (w : World) (x y z : Int) : Own (w.alloc (.cells #[.int .u8 x, .int .u8 y, .int .u8 z] 5)) w.heap.size (.slice (some ⟨w.heap.size, 0, none⟩) 3 3) [x, y, z] :=
  ⟨rfl, .inr ⟨w.heap.size, 3, #[.int .u8 x, .int .u8 y, .int .u8 z], rfl, Nat.le_refl _, heap_alloc_new w _, Nat.le_refl _, by unfold maxLen; omega, rfl, rfl⟩⟩
/-- What a common entry's record has behind its id. -/
def cieB (enc : Int) : List Int := [1, 122, 82, 0, 1, 120, 16, 1, enc]

set_option maxHeartbeats 2000000 in
theorem cie_any {base : Nat} {w : World} {tb : Nat} {addr : Int} {L : List Int} {v : Value} (hA : WA base w tb addr L v) (hL : L.length ≤ 1000000000000000) (enc : Int) (he0 : 0 ≤ enc) (he1 : enc ≤ 255)
    (ao : Option Addr) (c : Nat) (l : List Oq) (hl : l.length ≤ 5864062014634) (hI : IsOq w ao c l) (hf : Fz w) (hbase : base ≤ w.heap.size) :
    Calls Tryd.prog 40 #[.pointer (some ⟨tb, 0, none⟩), .agg #[.int .i64 enc, .slice ao l.length c]] w fun e w' => e = .returned (.int .i64 (L.length : Int)) ∧ ∃ v', WA base w' tb addr (L ++ recB 0 (cieB enc) l) v' ∧ WK w w' tb v v' := by
  have hwr : IntKind.u8.wrap enc = enc := by rw [IntKind.wrap_u8]; omega
  have K0 : Bk (w.alloc (.cells #[.int .i64 enc, .slice ao l.length c] 76)) w.heap.size 76 #[.int .i64 enc, .slice ao l.length c] := Bk.new _ _ _
  have hb0 : Below w.heap.size w (w.alloc (.cells #[.int .i64 enc, .slice ao l.length c] 76)) := (Below.refl _ _).alloc (Nat.le_refl _) _
  have HA : Hid _ := ⟨hA⟩
  have HI : Hid _ := ⟨hI⟩
  have HF : Hid _ := ⟨hf⟩
  have c1 := (hA.bel hb0).bk.cell 1 rfl
  clear hA hI hf
  go_enter Tryd.func40, Tryd.ntmps40
  go_upto_region 2 with (fail)
  have HZ0 : Hid ((w.alloc (.cells #[.int .i64 enc, .slice ao l.length c] 76)).heap.size = w.heap.size + 1) := ⟨by simp⟩
  have HU : Hid (∀ w : World, Calls Tryd.prog 55 #[.int .i64 1] w fun e w' => ∃ v, e = .returned v ∧ Own w' w.heap.size v [1] ∧ Below w.heap.size w w') := ⟨uleb_any 1⟩
  have HS : Hid (∀ w : World, Calls Tryd.prog 54 #[.int .i64 (-8)] w fun e w' => ∃ v, e = .returned v ∧ Own w' w.heap.size v [120] ∧ Below w.heap.size w w') := ⟨fun w => sleb_any (-8) w (by omega)⟩
  generalize (w.alloc (.cells #[.int .i64 enc, .slice ao l.length c] 76)) = w0 at *
  go_upto_region 3 with
    (at_builtin; refine append_str _ rfl _ _ rfl w0.heap.size _ [1] rfl (own_lit w0 1) ⟨#[122, 82, 0]⟩ rfl (by decide) (by simp) ?_; intro v1 w1 ho1 hl1; have H1 : Hid (Own w1 w0.heap.size v1 [1, 122, 82, 0] ∧ Below w0.heap.size w0 w1) := ⟨ho1, ((Below.refl _ _).alloc (Nat.le_refl _) _).trans hl1⟩; clear ho1 hl1)
  go_upto_region 4 with (first
    | (go_at_call 55; (with_reducible refine (HU.out _).mono ?_); rintro e w2 ⟨u2, he, ho2, hl2⟩; subst he; have H2 : Hid (Own w2 w0.heap.size v1 [1, 122, 82, 0] ∧ Below w0.heap.size w0 w2 ∧ Own w2 w1.heap.size u2 [1]) := ⟨H1.out.1.bel hl2, H1.out.2.trans (hl2.mono H1.out.2.size), ho2⟩; clear ho2 hl2)
    | (at_builtin; refine append_bt _ rfl _ _ rfl w0.heap.size _ [1, 122, 82, 0] rfl H2.out.1 _ [1] rfl H2.out.2.2.bt (by decide) H2.out.2.1.size ?_; intro v3 w3 ho3 hl3; have H3 : Hid (Own w3 w0.heap.size v3 [1, 122, 82, 0, 1] ∧ Below w0.heap.size w0 w3) := ⟨ho3, H2.out.2.1.trans hl3⟩; clear ho3 hl3))
  clear H1 H2
  go_upto_region 5 with (first
    | (go_at_call 54; (with_reducible refine (HS.out _).mono ?_); rintro e w4 ⟨u4, he, ho4, hl4⟩; subst he; have H4 : Hid (Own w4 w0.heap.size v3 [1, 122, 82, 0, 1] ∧ Below w0.heap.size w0 w4 ∧ Own w4 w3.heap.size u4 [120]) := ⟨H3.out.1.bel hl4, H3.out.2.trans (hl4.mono H3.out.2.size), ho4⟩; clear ho4 hl4)
    | (at_builtin; refine append_bt _ rfl _ _ rfl w0.heap.size _ [1, 122, 82, 0, 1] rfl H4.out.1 _ [120] rfl H4.out.2.2.bt (by decide) H4.out.2.1.size ?_; intro v5 w5 ho5 hl5; have H5 : Hid (Own w5 w0.heap.size v5 [1, 122, 82, 0, 1, 120] ∧ Below w0.heap.size w0 w5) := ⟨ho5, H4.out.2.1.trans hl5⟩; clear ho5 hl5))
  clear H3 H4
  have K5 := K0.bel H5.out.2 (by have := HZ0.out; omega)
  have k0 := K5.cell 0 rfl
  go_upto_region 6 with
    (at_builtin; refine append_bt _ rfl _ _ rfl w0.heap.size _ [1, 122, 82, 0, 1, 120] rfl (H5.out.1.bel ((Below.refl _ _).alloc (Nat.le_refl _) _)) _ [16, 1, enc] rfl (own_lit3 w5 16 1 enc).bt (by simp) (by have := H5.out.2.size; simp; omega) ?_; intro v7 w7 ho7 hl7; have H7 : Hid (Own w7 w0.heap.size v7 (cieB enc) ∧ Below w0.heap.size w0 w7) := ⟨ho7, (H5.out.2.trans (((Below.refl _ _).alloc (Nat.le_refl _) _).mono H5.out.2.size)).trans hl7⟩; clear ho7 hl7)
  clear k0 K5
  have K7 := K0.bel H7.out.2 (by have := HZ0.out; omega)
  have k0 := K7.cell 1 rfl
  have hb7 : Below w.heap.size w w7 := hb0.trans (H7.out.2.mono (by have := HZ0.out; omega))
  have A7 := HA.out.bel hb7
  have hz := HZ0.out
  have P7 : Ap w7 w0.heap.size v7 (cieB enc) v := ⟨H7.out.1, fun k hk e => by
    obtain ⟨M, h1, _⟩ := HA.out.own
    have := (h1.lt' k e).2.1
    have := (H7.out.1.lt' k hk).1
    omega⟩
  have HR : Hid _ := ⟨record_any A7 hL 0 (by omega) (by omega) P7 (by simp [cieB]) ao c l hl (HI.out.bel hb7) (HF.out.bel hb7 HF.out.z) (Nat.le_trans hbase hb7.size)⟩
  have HB7 : Hid _ := ⟨hb7⟩
  clear A7 P7 K7 hb7 hz
  go_wp2_with (go_at_call 62; (with_reducible refine HR.out.mono ?_); rintro e w8 ⟨he, v8, ha8, hk8⟩; subst he)
  go_ret
  exact ⟨rfl, v8, ha8, (WK.of_bel HB7.out).trans hk8⟩
end Go.Proofs.YtomboebfbipaaaaDoor
