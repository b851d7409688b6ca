/- The contract of Map. -/
import Derived.Test.YtpfmnopokfiheaaMPut
import Derived.Deep.Cut
import Derived.Deep.DeepMust
namespace Go.Proofs.Ytpfmnopokfiheaa
open Go.ChangeShapes Go.WideShapes Go.ChangeAt Go.RowKit Go.Maps
set_option linter.unusedVariables false
set_option linter.unusedSimpArgs false

section
set_option maxRecDepth 100000
theorem build75 (m : Int) (W : World) : (Instr.build 75 #[(0, .int .i64 m)]).run Try.prog W = .ok (.agg (pgC m zeroB)) W := by kernel_rfl
end
theorem wpList_build75 {ops : Array Oper} {rest : List Oper} {o : Oper} {a : Act} {w : World} {Q : Exit → Act → World → Prop} (hg : o.guard = none) (x : Operand) (hop : o.op = Op.build 75 #[(0, x)])
    (m : Int) (C : Array Value) (hC : pgC m zeroB = C) (hx : a.eval x = .int .i64 m) (hK : wpList Try.prog ops Q rest (a.put o.dst (.agg C)) w) : wpList Try.prog ops Q (o :: rest) a w := by
  refine wpList_plain hg fun K' hK' => ?_
  have hb := build75 m w
  rw [hC] at hb
  unfold Oper.wp
  simp [execOp, hop, hx, hb, Result.andThen]
  exact hK' _ _ hK
theorem zero72 (w : World) : (zeroValue 72).run Try.prog w = .ok (.pointer none) w := by kernel_rfl

def mapE (L : List Pz) (a : Nat) (pages may : Int) : Int :=
  if namE a pages may ≠ 0 then namE a pages may else if inN L (a / 4096) (a / 4096 + pages.toNat) ≠ 0 then 60 else if 1024 < L.length + pages.toNat then 6 else 0
def mapL (L : List Pz) (a : Nat) (pages may : Int) : List Pz := if mapE L a pages may = 0 then addL L (a / 4096) pages.toNat may else L

theorem map_no (v : Value) (a : Nat) (pages may : Int) (w : World) (h : NM w v) :
    Calls Try.prog 25 #[v, .int .u64 a, .int .i64 pages, .int .i64 may] w fun e w' => e = .returned (.int .i64 1) ∧ Below w.heap.size w w' := by
  have HN := named_no v a pages may w h
  go_enter Try.func25, Try.ntmps25
  go_wp2_with (go_at_call 49; with_reducible refine HN.mono ?_; rintro e w1 ⟨he, hb⟩; subst he; unfold spV)
  go_ret
  exact ⟨rfl, hb.alloc hb.size _⟩

/-- What a call leaves of a Memory. -/
def Nx (w w' : World) (mb gb : Nat) (pl : Nat → Nat) (L L' : List Pz) : Prop :=
  ∃ pl', MA w' mb gb pl' L' ∧ Turn (MS mb gb pl L) w w' ∧ ∀ b, MS mb gb pl' L' b → MS mb gb pl L b ∨ w.heap.size ≤ b

theorem Nx.same {w w' : World} {mb gb : Nat} {pl : Nat → Nat} {L : List Pz} (h : MA w mb gb pl L) (hb : Below w.heap.size w w') : Nx w w' mb gb pl L L :=
  ⟨pl, h.below hb, Turn.of_below hb _, fun _ h => .inl h⟩

theorem namE_ok {a : Nat} {pages may : Int} (h : namE a pages may = 0) : 1 ≤ pages ∧ 0 ≤ may ∧ may ≤ 7 ∧ a % 4096 = 0 ∧ a ≤ 140737488355328 ∧ pages ≤ (((140737488355328 - a) / 4096 : Nat) : Int) := by
  unfold namE at h
  split at h
  · cases h
  · split at h
    · cases h
    · split at h
      · cases h
      · omega

theorem map_named (mb gb a : Nat) (pl : Nat → Nat) (L : List Pz) (pages may : Int) (w : World) (h : MA w mb gb pl L) (ha : a < 18446744073709551616) (hp : -9223372036854775808 ≤ pages ∧ pages ≤ 9223372036854775807) (hE : namE a pages may ≠ 0) :
    Calls Try.prog 25 #[.pointer (some ⟨mb, 0, none⟩), .int .u64 a, .int .i64 pages, .int .i64 may] w fun e w' => e = .returned (.int .i64 (mapE L a pages may)) ∧ Nx w w' mb gb pl L (mapL L a pages may) := by
  have HN := named_ok mb gb a pages may w h.mcell ha hp
  have HV : mapE L a pages may = namE a pages may := by unfold mapE; rw [if_pos hE]
  have HL : mapL L a pages may = L := by unfold mapL; rw [HV, if_neg hE]
  unfold namV at HN
  rw [if_neg hE] at HN
  rw [HL, HV]
  generalize namE a pages may = q at *
  have HM : Hid _ := ⟨h⟩
  have hq : (q == 0) = false := by simpa using hE
  clear h HV HL hE
  unfold spV at HN
  go_enter Try.func25, Try.ntmps25
  go_wp2_with (go_at_call 49; with_reducible refine HN.mono ?_; rintro e w1 ⟨he, hb⟩; subst he)
  go_ret
  exact ⟨rfl, Nx.same HM.out (hb.alloc hb.size _)⟩

theorem map_there (mb gb a : Nat) (pl : Nat → Nat) (L : List Pz) (pages may : Int) (w : World) (h : MA w mb gb pl L) (ha : a < 18446744073709551616) (hp : -9223372036854775808 ≤ pages ∧ pages ≤ 9223372036854775807) (hLL : L.length ≤ 1024) (hE : namE a pages may = 0)
    (hI : inN L (a / 4096) (a / 4096 + pages.toNat) ≠ 0) :
    Calls Try.prog 25 #[.pointer (some ⟨mb, 0, none⟩), .int .u64 a, .int .i64 pages, .int .i64 may] w fun e w' => e = .returned (.int .i64 (mapE L a pages may)) ∧ Nx w w' mb gb pl L (mapL L a pages may) := by
  have HN := named_ok mb gb a pages may w h.mcell ha hp
  have HV : mapE L a pages may = 60 := by unfold mapE; rw [if_neg (by simpa using hE), if_pos hI]
  have HL : mapL L a pages may = L := by unfold mapL; rw [HV, if_neg (by decide)]
  obtain ⟨p1, p2, p3, p4, p5, p6⟩ := namE_ok hE
  unfold namV at HN
  rw [if_pos hE] at HN
  rw [HL, HV]
  have e1 : ((a / 4096 : Nat) : Int) + pages = ((a / 4096 + pages.toNat : Nat) : Int) := by omega
  rw [e1] at HN
  generalize a / 4096 = f at *
  generalize f + pages.toNat = g at *
  have HP : ∀ W, Below w.heap.size w W → Calls Try.prog 50 #[.pointer (some ⟨mb, 0, none⟩), spV (f : Int) (g : Int)] W _ := fun W hW => present_ok mb gb pl L f g W (h.below hW) (by omega)
  have hn : (0 : Int) < (inN L f g : Nat) := by omega
  generalize inN L f g = q at *
  have HM : Hid _ := ⟨h⟩
  have HP' : Hid _ := ⟨HP⟩
  clear h HV HL hE hI HP p1 p2 p3 p4 p5 p6 hLL ha hp e1
  unfold spV at HN HP'
  go_enter Try.func25, Try.ntmps25
  go_wp2_with (first
    | (go_at_call 49; with_reducible refine HN.mono ?_; rintro e w1 ⟨he, hb⟩; subst he)
    | (go_at_call 50; with_reducible refine (HP'.out _ (hb.alloc hb.size _)).mono ?_; rintro e w2 ⟨he, hb2⟩; subst he))
  go_ret
  exact ⟨rfl, Nx.same HM.out ((hb.alloc hb.size _).trans (hb2.mono (by have := hb.size; simp; omega)))⟩

theorem own_below {w w' : World} {b n : Nat} {D : DataW Value} (h : w.ownsMap Try.prog 30 RV b n D) (hb : Below w.heap.size w w') : w'.ownsMap Try.prog 30 RV b n D := by
  have hlt := h.lt
  obtain ⟨es, c, he, r⟩ := h
  exact ⟨es, c, (hb.block b hlt).trans he, r⟩

theorem map_many (mb gb a : Nat) (pl : Nat → Nat) (L : List Pz) (pages may : Int) (w : World) (h : MA w mb gb pl L) (ha : a < 18446744073709551616) (hp : -9223372036854775808 ≤ pages ∧ pages ≤ 9223372036854775807) (hLL : L.length ≤ 1024) (hE : namE a pages may = 0)
    (hI : inN L (a / 4096) (a / 4096 + pages.toNat) = 0) (hS : 1024 < L.length + pages.toNat) :
    Calls Try.prog 25 #[.pointer (some ⟨mb, 0, none⟩), .int .u64 a, .int .i64 pages, .int .i64 may] w fun e w' => e = .returned (.int .i64 (mapE L a pages may)) ∧ Nx w w' mb gb pl L (mapL L a pages may) := by
  have HN := named_ok mb gb a pages may w h.mcell ha hp
  have HV : mapE L a pages may = 6 := by unfold mapE; rw [if_neg (by simpa using hE), if_neg (by simpa using hI), if_pos hS]
  have HL : mapL L a pages may = L := by unfold mapL; rw [HV, if_neg (by decide)]
  obtain ⟨p1, p2, p3, p4, p5, p6⟩ := namE_ok hE
  unfold namV at HN
  rw [if_pos hE] at HN
  rw [HL, HV]
  have e1 : ((a / 4096 : Nat) : Int) + pages = ((a / 4096 + pages.toNat : Nat) : Int) := by omega
  rw [e1] at HN
  have hS' : (1024 : Int) < (L.length : Int) + pages := by omega
  have hS2 : pages ≤ 34359738368 := by omega
  generalize a / 4096 = f at *
  generalize f + pages.toNat = g at *
  have HP : ∀ W, Below w.heap.size w W → Calls Try.prog 50 #[.pointer (some ⟨mb, 0, none⟩), spV (f : Int) (g : Int)] W _ := fun W hW => present_ok mb gb pl L f g W (h.below hW) (by omega)
  rw [hI] at HP
  have hc : ∀ W, Below w.heap.size w W → W.cell? ⟨mb, 0, none⟩ = some (.map (some gb)) := fun W hW => (h.below hW).mcell
  obtain ⟨D, hD, hDI⟩ := h.own
  have HD : Hid (∀ W, Below w.heap.size w W → W.ownsMap Try.prog 30 RV gb L.length D) := ⟨fun W hW => own_below hD hW⟩
  have hds := hDI.size
  rw [← hds] at hS' hLL
  generalize hq : Maps.size D = q at *
  have HM : Hid _ := ⟨h⟩
  have HP' : Hid _ := ⟨HP⟩
  have HC : Hid _ := ⟨hc⟩
  have HQ : Hid (Maps.size D = q) := ⟨hq⟩
  have hw : 0 ≤ pages := by omega
  have hS3 : (q : Int) ≤ 1024 := by omega
  clear h HV HL hE hI HP p1 p2 p3 p4 p5 p6 ha hp e1 hS hc hD hDI hds hq hLL
  unfold spV at HN HP'
  go_enter Try.func25, Try.ntmps25
  go_upto_region 6 with (first
    | (go_at_call 49; with_reducible refine HN.mono ?_; rintro e w1 ⟨he, hb⟩; subst he)
    | (go_at_call 50; with_reducible refine (HP'.out _ (hb.alloc hb.size _)).mono ?_; rintro e w2 ⟨he, hb2⟩; subst he; have hb3 : Below w.heap.size w w2 := (hb.alloc hb.size _).trans (hb2.mono (by have := hb.size; simp; omega)); have hc2 := HC.out w2 hb3))
  have hl : ∀ ty, (Builtin.len_ #[60] ty #[.map (some gb)]).run Try.prog w2 = .ok (.int .i64 (q : Int)) w2 := fun ty => by
    have := (HD.out _ hb3).len Try.underlying60 ty
    rw [HQ.out] at this
    exact this
  clear HD HP' HN HC
  go_wp2
  go_ret
  exact ⟨rfl, Nx.same HM.out hb3⟩

theorem map_done (mb gb a : Nat) (pl : Nat → Nat) (L : List Pz) (pages may : Int) (w : World) (h : MA w mb gb pl L) (ha : a < 18446744073709551616) (hp : -9223372036854775808 ≤ pages ∧ pages ≤ 9223372036854775807) (hE : namE a pages may = 0)
    (hI : inN L (a / 4096) (a / 4096 + pages.toNat) = 0) (hS : ¬ 1024 < L.length + pages.toNat) :
    Calls Try.prog 25 #[.pointer (some ⟨mb, 0, none⟩), .int .u64 a, .int .i64 pages, .int .i64 may] w fun e w' => e = .returned (.int .i64 (mapE L a pages may)) ∧ Nx w w' mb gb pl L (mapL L a pages may) := by
  have HN := named_ok mb gb a pages may w h.mcell ha hp
  have HV : mapE L a pages may = 0 := by unfold mapE; rw [if_neg (by simpa using hE), if_neg (by simpa using hI), if_neg hS]
  have HL : mapL L a pages may = addL L (a / 4096) pages.toNat may := by unfold mapL; rw [if_pos HV]
  obtain ⟨p1, p2, p3, p4, p5, p6⟩ := namE_ok hE
  unfold namV at HN
  rw [if_pos hE] at HN
  rw [HL, HV]
  have e1 : ((a / 4096 : Nat) : Int) + pages = ((a / 4096 + pages.toNat : Nat) : Int) := by omega
  rw [e1] at HN
  have hS' : ¬ (1024 : Int) < (L.length : Int) + pages := by omega
  have hfg : a / 4096 + pages.toNat ≤ 34359738368 := by omega
  generalize a / 4096 = f at *
  have hpn : pages = (pages.toNat : Int) := by omega
  generalize pages.toNat = n at *
  have hno := inN_zero hI
  have HP : ∀ W, Below w.heap.size w W → Calls Try.prog 50 #[.pointer (some ⟨mb, 0, none⟩), spV (f : Int) ((f + n : Nat) : Int)] W _ := fun W hW => present_ok mb gb pl L f (f + n) W (h.below hW) (by omega)
  rw [hI] at HP
  have hc : ∀ W, Below w.heap.size w W → W.cell? ⟨mb, 0, none⟩ = some (.map (some gb)) := fun W hW => (h.below hW).mcell
  obtain ⟨D, hD, hDI⟩ := h.own
  have HD : Hid (∀ W, Below w.heap.size w W → W.ownsMap Try.prog 30 RV gb L.length D) := ⟨fun W hW => own_below hD hW⟩
  have hds := hDI.size
  have hlen : L.length + n ≤ 1024 := by omega
  have HLen : Hid _ := ⟨hlen⟩
  have hlen1 : (L.length : Int) ≤ 1024 := by omega
  generalize hq : L.length = q at *
  have HM : Hid _ := ⟨h⟩
  have HP' : Hid _ := ⟨HP⟩
  have HC : Hid _ := ⟨hc⟩
  have HQ : Hid (Maps.size D = q) := ⟨hds⟩
  have HLq : Hid (L.length = q) := ⟨hq⟩
  have HNo : Hid _ := ⟨hno⟩
  have HF : Hid _ := ⟨hfg⟩
  have Hpn : Hid _ := ⟨hpn⟩
  have Hm : Hid (0 ≤ may ∧ may ≤ 7) := ⟨p2, p3⟩
  have hnn : 0 ≤ pages := by omega
  obtain ⟨C, hC⟩ : ∃ C, pgC may zeroB = C := ⟨_, rfl⟩
  have HC0 : Hid _ := ⟨hC⟩
  clear hC
  clear h HV HL hE hI HP p1 p2 p3 p4 p5 p6 ha hp e1 hS hc hD hDI hds hq hno hpn hlen
  unfold spV at HN HP'
  obtain ⟨g, hg⟩ : ∃ g, f + n = g := ⟨_, rfl⟩
  have Hg : Hid _ := ⟨hg⟩
  rw [hg] at HN HP' hfg
  clear hg
  go_enter Try.func25, Try.ntmps25
  go_upto_region 6 with (first
    | (go_at_call 49; with_reducible refine HN.mono ?_; rintro e w1 ⟨he, hb⟩; subst he)
    | (go_at_call 50; with_reducible refine (HP'.out _ (hb.alloc hb.size _)).mono ?_; rintro e w2 ⟨he, hb2⟩; subst he; have hb3 : Below w.heap.size w w2 := (hb.alloc hb.size _).trans (hb2.mono (by have := hb.size; simp; omega)); have hc2 := HC.out w2 hb3))
  have hl : ∀ ty, (Builtin.len_ #[60] ty #[.map (some gb)]).run Try.prog w2 = .ok (.int .i64 (q : Int)) w2 := fun ty => by
    have := (HD.out _ hb3).len Try.underlying60 ty
    rw [HQ.out] at this
    exact this
  have s1 : w2.cell? ⟨w1.heap.size, 0, none⟩ = some (.int .u64 (f : Int)) := (hb2.cell (p := ⟨w1.heap.size, 0, none⟩) (by simp)).trans (by simp)
  have s2 : w2.cell? ⟨w1.heap.size, 1, none⟩ = some (.int .u64 (g : Int)) := (hb2.cell (p := ⟨w1.heap.size, 1, none⟩) (by simp)).trans (by simp)
  have hw1 : w.heap.size ≤ w1.heap.size := hb.size
  have hw2 : w1.heap.size < w2.heap.size := by have := hb2.size; simp at this; omega
  have HB3 : Hid _ := ⟨hb3⟩
  generalize w1.heap.size = sb at *
  have hd : decide ((1024 : Int) < (q : Int) + pages) = false := by simp; omega
  clear HP' HN HC hb2 hb hb3
  have hS2 : (q : Int) + pages ≤ 1024 := by omega
  clear hS'
  go_wp2
  go_loopw [11] (fun nv wr => ∃ (i : Nat) (pl' : Nat → Nat), i ≤ n ∧ nv = .int .u64 ((f + i : Nat) : Int) ∧ Hid (MA wr mb gb pl' (addL L f i may) ∧ Turn (MS mb gb pl L) w wr ∧ (∀ b, MS mb gb pl' (addL L f i may) b → MS mb gb pl L b ∨ w.heap.size ≤ b) ∧ wr.cell? ⟨sb, 0, none⟩ = some (.int .u64 (f : Int)) ∧ wr.cell? ⟨sb, 1, none⟩ = some (.int .u64 (g : Int)) ∧ ∀ b, MS mb gb pl' (addL L f i may) b → b ≠ sb))
    (fun nv _ => f + n - (intOf nv).toNat)
  case atStart =>
    have e0 := addL_zero HM.out.mz.up f may
    refine ⟨0, pl, by omega, rfl, ⟨?_, ?_, ?_, s1, s2, ?_⟩⟩
    · rw [e0]; exact HM.out.below HB3.out
    · exact Turn.of_below HB3.out _
    · rw [e0]; exact fun b hb => .inl hb
    · rw [e0]; intro b hb; have := HM.out.slt hb; omega
  case round =>
    obtain ⟨i, pl', hi, rfl, HR⟩ := hrel
    obtain ⟨hma, htu, hgr, c1, c2, hns⟩ := HR.out
    have hc := hma.mcell
    have hgg := Hg.out
    have hff := HF.out
    by_cases hin : i < n
    rotate_left
    · obtain rfl : i = n := by omega
      have q1 : ¬ ((f + i : Nat) : Int) < ((g : Nat) : Int) := by omega
      clear hma htu hgr hns
      go_wp2
      go_ret
      exact ⟨rfl, pl', HR.out.1, HR.out.2.1, HR.out.2.2.1⟩
    · have q1 : ((f + i : Nat) : Int) < ((g : Nat) : Int) := by omega
      have hP : Plus (addL L f i may) (addL L f (i + 1) may) ⟨f + i, may, zeroB⟩ := addL_plus HM.out.mz.up (fun p hp hf => by have := HNo.out p hp hf; omega)
      obtain ⟨D', hD', hI'⟩ := hma.own
      have HD' : Hid _ := ⟨hD'.alloc (.cells C 75)⟩
      have hll : (addL L f i may).length < maxLen := by rw [addL_len, HLq.out]; have := HLen.out; unfold maxLen; omega
      have HK : Hid (keyOf Try.prog 30 (.int .u64 ((f + i : Nat) : Int)) = some (kl (f + i))) := ⟨key30 (by omega)⟩
      have HX : Hid _ := ⟨hll⟩
      have HMa : Hid _ := ⟨hma⟩
      have HTu : Hid _ := ⟨htu⟩
      have HGr : Hid _ := ⟨hgr⟩
      have HNs : Hid _ := ⟨hns⟩
      have HI' : Hid _ := ⟨hI'⟩
      have HP : Hid _ := ⟨hP⟩
      have HOk : Hid (Pz.Ok ⟨f + i, may, zeroB⟩) := ⟨zeroB_ok (by omega) Hm.out.1 Hm.out.2⟩
      clear hma htu hgr hns hD' hI' hll hP HR
      obtain ⟨j, hj⟩ : ∃ j, f + i = j := ⟨_, rfl⟩
      have Hj : Hid _ := ⟨hj⟩
      have hjs : ((j + 1 : Nat) : Int) ≤ 34359738368 := by omega
      rw [hj] at HK HP HOk q1
      rw [hj]
      clear hj hgg hff
      go_wp2_with (first | (refine wpList_build75 rfl (.tmp 51) rfl may C HC0.out ?h5 ?_; (case h5 => rfl)) | (at_mapUpdate; go_must ((with_reducible refine wpList_mapUpdate_own _ rfl _ _ _ 60 rfl 30 72 law30 Try.underlying60 RV gb _ D' ?h1 HD'.out HX.out (.int .u64 (j : Int)) (.pointer (some ⟨wr.heap.size, 0, none⟩)) (kl j) ?h2 ?h3 HK.out (.held (pgP wr.heap.size)) [] ?h4 ?_); (case h1 => rfl); (case h2 => rfl); (case h3 => rfl); (case h4 => rfl); intro w3 hown3 hg3)))
      have hC := HC0.out
      subst hC
      have hMa := HMa.out
      have hj := Hj.out
      subst hj
      have hmt := hMa.put HP.out HOk.out HI'.out hown3 hg3
      have hgl := hMa.glt
      have hTu := HTu.out
      have hsz := hTu.size
      have hgs : gb ≠ sb := HNs.out gb (.inr (.inl rfl))
      have hblk : ∀ o, w3.cell? ⟨sb, o, none⟩ = wr.cell? ⟨sb, o, none⟩ := fun o => by
        have hlt : sb < wr.heap.size := World.block_lt_of_cell? _ _ c1
        have e1 : w3.heap[sb]? = wr.heap[sb]? := by
          rw [hg3.block sb (by simp; omega) (by simp; omega), Below.heap_alloc _ _ _ hlt]
        simp only [World.cell?, e1]
      refine ⟨⟨i + 1, upd pl' (f + i) wr.heap.size, by omega, by congr 1, ⟨hmt, ?_, ?_, (hblk 0).trans c1, (hblk 1).trans c2, ?_⟩⟩, ?_⟩
      · exact (hTu.alloc _).grown hg3 (fun k _ e => by cases e; exact .inr (.inl rfl))
      · intro b hb
        rcases hb with rfl | rfl | ⟨p, hp, rfl⟩
        · exact .inl (.inl rfl)
        · exact .inl (.inr (.inl rfl))
        · rcases (HP.out.mem p).1 hp with hp | rfl
          · have hne := HP.out.new p hp
            simp only [upd, if_neg hne]
            exact HGr.out _ (.inr (.inr ⟨p, hp, rfl⟩))
          · simp only [upd, if_true]
            exact .inr hsz
      · intro b hb
        rcases hb with rfl | rfl | ⟨p, hp, rfl⟩
        · exact HNs.out _ (.inl rfl)
        · exact hgs
        · rcases (HP.out.mem p).1 hp with hp | rfl
          · have hne := HP.out.new p hp
            simp only [upd, if_neg hne]
            exact HNs.out _ (.inr (.inr ⟨p, hp, rfl⟩))
          · simp only [upd, if_true]
            have hlt : sb < wr.heap.size := World.block_lt_of_cell? _ _ c1
            omega
      · simp only [intOf]
        omega

theorem map_ok (mb gb a : Nat) (pl : Nat → Nat) (L : List Pz) (pages may : Int) (w : World) (h : MA w mb gb pl L) (ha : a < 18446744073709551616) (hp : -9223372036854775808 ≤ pages ∧ pages ≤ 9223372036854775807) (hLL : L.length ≤ 1024) :
    Calls Try.prog 25 #[.pointer (some ⟨mb, 0, none⟩), .int .u64 a, .int .i64 pages, .int .i64 may] w fun e w' => e = .returned (.int .i64 (mapE L a pages may)) ∧ Nx w w' mb gb pl L (mapL L a pages may) := by
  by_cases h1 : namE a pages may = 0
  · by_cases h2 : inN L (a / 4096) (a / 4096 + pages.toNat) = 0
    · by_cases h3 : 1024 < L.length + pages.toNat
      · exact map_many mb gb a pl L pages may w h ha hp hLL h1 h2 h3
      · exact map_done mb gb a pl L pages may w h ha hp h1 h2 h3
    · exact map_there mb gb a pl L pages may w h ha hp hLL h1 h2
  · exact map_named mb gb a pl L pages may w h ha hp h1

theorem mapL_len {L : List Pz} {a : Nat} {pages may : Int} (hLL : L.length ≤ 1024) : (mapL L a pages may).length ≤ 1024 := by
  unfold mapL
  split
  · rename_i h
    rw [addL_len]
    unfold mapE at h
    split at h
    · contradiction
    · split at h
      · cases h
      · split at h
        · cases h
        · omega
  · exact hLL
end Go.Proofs.Ytpfmnopokfiheaa
