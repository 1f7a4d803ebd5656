/- ExtendGood as a call. -/
import Derived.Test.YtjakfgpgcnbclaaCown
import Derived.Test.YtjakfgpgcnbclaaOpen
namespace Go.Proofs.Ytjakfgpgcnbclaa
open Go.RowKit
set_option linter.unusedVariables false
set_option linter.unusedSimpArgs false

/-- What is left and what lies on the stack. -/
structure St (w W1 : World) (V : Nat) (cs : List (List Int)) (al : Option Addr) (L cl : Nat) (aS : Option Addr) (S cs2 k : Nat) (qs : List Cq) (rs : List Wq) (wr : World) : Prop where
  l12 : L ≤ 12
  sk : S ≤ k
  below : Below W1.heap.size W1 wr
  ql : qs.length = L
  rl : rs.length = S
  left : COwn w W1.heap.size wr (.slice al L cl) qs
  stack : SOwn w W1.heap.size wr (.slice aS S cs2) rs
  off : Ext.Off V cs (qs.map (·.1)) (rs.map (·.1))
  ok : Ext.okS V (rs.map (·.1)) = true
theorem St.on {w W1 : World} {V : Nat} {cs : List (List Int)} {al : Option Addr} {L cl : Nat} {aS : Option Addr} {S cs2 k : Nat} {qs : List Cq} {rs : List Wq} {wr W : World} (h : St w W1 V cs al L cl aS S cs2 k qs rs wr) (hb : Below wr.heap.size wr W) : St w W1 V cs al L cl aS S cs2 k qs rs W :=
  ⟨h.l12, h.sk, h.below.trans (hb.mono h.below.size), h.ql, h.rl, h.left.below hb, h.stack.below hb, h.off, h.ok⟩
theorem St.at {w W1 : World} {V : Nat} {cs : List (List Int)} {al : Option Addr} {L cl : Nat} {aS : Option Addr} {S cs2 k : Nat} {qs : List Cq} {rs : List Wq} {wr : World} (h : St w W1 V cs al L cl aS S cs2 k qs rs wr) (hL : 0 < L) : ∃ g, al = some ⟨g, 0, none⟩ ∧ L ≤ cl ∧ cl ≤ maxLen := by
  rcases h.left.row.2 with ⟨e, h0⟩ | ⟨g, cap', cur, e, h1, h2, h3, h4, _⟩
  · have := h.ql; omega
  · injection e with e1 e2 e3
    subst e1 e3
    have := h.ql
    exact ⟨g, rfl, by omega, h4⟩
theorem Ints.at {w : World} {a : Option Addr} {xs : List Int} (h : Ints w a xs) {k : Nat} (hk : k < xs.length) :
    ∃ b off, a = some ⟨b, off, none⟩ ∧ b < w.heap.size ∧ w.cell? ⟨b, off + k, none⟩ = some (.int .i64 (xs.getD k 0)) ∧ -9223372036854775808 ≤ xs.getD k 0 ∧ xs.getD k 0 ≤ 9223372036854775807 := by
  have hm : xs.getD k 0 ∈ xs := by simp [List.getD, List.getElem?_eq_getElem hk]
  rcases h.2 with rfl | ⟨b, off, e, hl, hc⟩
  · simp at hk
  · exact ⟨b, off, e, hl, hc k hk, (h.1 _ hm).1, (h.1 _ hm).2⟩

theorem meas {j P : Nat} (h : j < P) : P - ((j : Int) + 1).toNat < P - ((j : Int)).toNat := by omega

set_option maxRecDepth 100000 in
set_option maxHeartbeats 16000000 in
theorem law4 (vars : Int) (a pa la : Option Addr) (n cap pn pcap ln lcap : Nat) (cs : List (List Int)) (ps : List Int) (ls : List (List Int)) (w : World) (hn : cs.length = n) (hN : n ≤ 8796093022208) (hc : Cls w a cs) (hp : ps.length = pn) (hpp : Ints w pa ps) (hl : ls.length = ln) (hlN : ln ≤ 8796093022208) (hlc : Cls w la ls) :
    Calls Try.prog 4 #[.agg #[.int .i64 vars, .slice a n cap], .slice pa pn pcap, .slice la ln lcap] w fun e w' => e = .returned (.bool true) ∧ Below w.heap.size w w' := by
  obtain ⟨W1, hW1⟩ : ∃ W1, w.alloc (.cells #[.int .i64 vars, .slice a n cap] 34) = W1 := ⟨_, rfl⟩
  have hB1 : Below w.heap.size w W1 := by rw [← hW1]; exact below_box _ _
  have hs1 : w.heap.size < W1.heap.size := by rw [← hW1]; simp
  have x0 : W1.cell? ⟨w.heap.size, 0, none⟩ = some (.int .i64 vars) := by rw [← hW1]; exact row_cell (World.alloc_heap_new w _) 0
  have x1 : W1.cell? ⟨w.heap.size, 1, none⟩ = some (.slice a n cap) := by rw [← hW1]; exact row_cell (World.alloc_heap_new w _) 1
  have C11 := hid (small11 vars a n cap cs W1 hn hN (hc.below hB1))
  have HB1 := hid hB1
  have HN := hid hn
  have HC := hid hc
  have HP := hid hp
  have HPP := hid hpp
  have HL := hid hl
  have HLC := hid hlc
  have HX0 := hid x0
  have HX1 := hid x1
  clear hn hc hp hpp hl hlc hB1
  go_enter Try.func4, Try.ntmps4
  go_wp2_with fail
  go_at_call 11
  refine C11.out.mono ?_
  clear C11
  rintro e W2 ⟨⟨b, rfl, hsm⟩, hb2⟩
  have HB2 := hid hb2
  have HB02 := hid (HB1.out.trans (hb2.mono (by omega)))
  have HSM := hid hsm
  clear hb2 hsm x0 x1 hW1
  cases b
  · go_wp2_with fail
    go_at_call 10
    refine (works10 _).mono ?_
    rintro e w9 ⟨rfl, hb9⟩
    have HF := hid (HB02.out.trans (hb9.mono HB02.out.size))
    clear hb9
    go_wp2
    go_ret
    exact ⟨rfl, HF.out⟩
  have y0 := (HB2.out.cell (p := ⟨w.heap.size, 0, none⟩) hs1).trans HX0.out
  have y1 := (HB2.out.cell (p := ⟨w.heap.size, 1, none⟩) hs1).trans HX1.out
  obtain ⟨hv6, hn12, hfl⟩ := HSM.out rfl
  rw [HN.out] at hn12
  by_cases hv0 : vars < 0
  · go_wp2_with fail
    go_at_call 10
    refine (works10 _).mono ?_
    rintro e w9 ⟨rfl, hb9⟩
    have HF := hid (HB02.out.trans (hb9.mono HB02.out.size))
    clear hb9
    go_wp2
    go_ret
    exact ⟨rfl, HF.out⟩
  obtain ⟨V, rfl⟩ : ∃ V : Nat, vars = V := ⟨vars.toNat, by omega⟩
  have hV6 : V ≤ 6 := by omega
  have C12 := hid (right12 a n cap V cs W2 HN.out hN (by omega) (HC.out.below HB02.out))
  clear hv6 HSM hfl hv0
  have hv0' : ¬ (V : Int) < 0 := by omega
  obtain ⟨r1, hr1⟩ : ∃ r1, Ext.okCs V cs = r1 := ⟨_, rfl⟩
  rw [hr1] at C12
  have HR1 := hid hr1
  clear hr1
  go_wp2_with fail
  go_at_call 12
  refine C12.out.mono ?_
  clear C12
  rintro e W3 ⟨rfl, hd3⟩
  have HB3 := hid (HB2.out.trans (hd3.below'.mono HB2.out.size))
  have HB03 := hid (HB02.out.trans (hd3.below'.mono HB02.out.size))
  clear hd3 y0 y1 HB2 HB02
  cases r1
  · go_wp2_with fail
    go_at_call 10
    refine (works10 _).mono ?_
    rintro e w9 ⟨rfl, hb9⟩
    have HF := hid (HB03.out.trans (hb9.mono HB03.out.size))
    clear hb9
    go_wp2
    go_ret
    exact ⟨rfl, HF.out⟩
  have y0 := (HB3.out.cell (p := ⟨w.heap.size, 0, none⟩) hs1).trans HX0.out
  have y1 := (HB3.out.cell (p := ⟨w.heap.size, 1, none⟩) hs1).trans HX1.out
  have C12 := hid (right12 la ln lcap V ls W3 HL.out hlN (by omega) (HLC.out.below HB03.out))
  obtain ⟨r2, hr2⟩ : ∃ r2, Ext.okCs V ls = r2 := ⟨_, rfl⟩
  rw [hr2] at C12
  have HR2 := hid hr2
  clear hr2
  go_wp2_with fail
  go_at_call 12
  refine C12.out.mono ?_
  clear C12
  rintro e W4 ⟨rfl, hd4⟩
  have HB4 := hid (HB3.out.trans (hd4.below'.mono HB3.out.size))
  have HB04 := hid (HB03.out.trans (hd4.below'.mono HB03.out.size))
  clear hd4 y0 y1 HB3 HB03
  cases r2
  · go_wp2_with fail
    go_at_call 10
    refine (works10 _).mono ?_
    rintro e w9 ⟨rfl, hb9⟩
    have HF := hid (HB04.out.trans (hb9.mono HB04.out.size))
    clear hb9
    go_wp2
    go_ret
    exact ⟨rfl, HF.out⟩
  by_cases hp12 : (12 : Int) < pn
  · go_wp2_with fail
    go_at_call 10
    refine (works10 _).mono ?_
    rintro e w9 ⟨rfl, hb9⟩
    have HF := hid (HB04.out.trans (hb9.mono HB04.out.size))
    clear hb9
    go_wp2
    go_ret
    exact ⟨rfl, HF.out⟩
  have hp12' : pn ≤ 12 := by omega
  have y1 := (HB4.out.cell (p := ⟨w.heap.size, 1, none⟩) hs1).trans HX1.out
  obtain ⟨qs0, hq1, hq2, hq3⟩ := cq_ex HC.out
  have hql : qs0.length = n := by have := congrArg List.length hq1; simpa [HN.out] using this
  obtain ⟨al0, cl0, W5, hr5, hO5, hb5⟩ := copy_cls w W4 a n cap qs0 hql (by omega) hq2 (hq3.imp id (fun ⟨b, off, e, hcx⟩ => ⟨b, off, e, fun j u hu => by
    have hk := hcx j u hu
    have hlt : b < w.heap.size := by
      rw [show (⟨b, off, none⟩ : Addr).add j = ⟨b, off + j, none⟩ from Go.WideShapes.add_plain _ _ _] at hk
      exact cell_lt hk
    rw [show (⟨b, off, none⟩ : Addr).add j = ⟨b, off + j, none⟩ from Go.WideShapes.add_plain _ _ _] at hk ⊢
    exact (HB04.out.cell (p := ⟨b, off + j, none⟩) hlt).trans hk⟩))
  have HR5 := hid hr5
  have ST := hid (show St w W1 V cs al0 n cl0 none 0 0 0 qs0 [] W5 from ⟨hn12, Nat.le_refl _, HB4.out.trans (hb5.mono HB4.out.size), hql, rfl, ⟨own_base hO5.row HB4.out.size, hO5.each⟩, ⟨World.ownsRow_nil _ _ _ _, fun r h => by cases h⟩, by rw [hq1]; exact Ext.Off.start V cs, rfl⟩)
  clear hr5 hO5 hb5 hq1 hq2 hq3 hql HB4 HB04
  go_wp2_with (at_builtin; refine wpList_append_run rfl (.tmp 46) (.tmp 48) 32 32 rfl rfl rfl HR5.out ?_; clear HR5 y1)
  go_loopw [7, 8, 9, 10, 11, 12] (fun left stack i _ _ _ wr => ∃ (k L S : Nat) (al : Option Addr) (cl : Nat) (aS : Option Addr) (cs2 : Nat) (qs : List Cq) (rs : List Wq), left = .slice al L cl ∧ stack = .slice aS S cs2 ∧ i = .int .i64 k ∧ k ≤ pn ∧ Hid (St w W1 V cs al L cl aS S cs2 k qs rs wr)) (fun _ _ i _ _ _ _ => pn - (intOf i).toNat)
  case atStart => exact ⟨0, n, 0, al0, cl0, none, 0, qs0, [], rfl, rfl, rfl, Nat.zero_le _, ST⟩
  case round =>
    clear ST
    obtain ⟨k, L, S, al, cl, aS, cs2, qs, rs, rfl, rfl, rfl, hk, ST⟩ := hrel
    have hL12 := ST.out.l12
    by_cases hin : k < pn ∧ k < ln ∧ 0 < L
    · obtain ⟨h1, h2, h3⟩ := hin
      have h1' : (k : Int) < pn := by omega
      have h2' : (k : Int) < ln := by omega
      have h3' : (0 : Int) < L := by omega
      obtain ⟨g, rfl, hcl, hclm⟩ := ST.out.at h3
      have HB0r := hid (HB1.out.trans (ST.out.below.mono (by omega)))
      obtain ⟨pb, poff, rfl, hpb, hpc, hp1, hp2⟩ := HPP.out.at (k := k) (by rw [HP.out]; exact h1)
      have pc := (HB0r.out.cell (p := ⟨pb, poff + k, none⟩) hpb).trans hpc
      have C13 := hid (pick13 (ps.getD k 0) L wr h3 (by omega) hp1 hp2)
      generalize ps.getD k 0 = px at pc C13 hp1 hp2
      clear hpc hp1 hp2
      go_wp2_with fail
      go_at_call 13
      refine C13.out.mono ?_
      clear C13
      rintro e w6 ⟨⟨t, ht, rfl⟩, hw6⟩
      rw [hw6]
      clear hw6 pc
      obtain ⟨o1, c1, V1, hr6, hb6, hsec⟩ := erase_cls w wr W1.heap.size g L cl t qs ST.out.ql (by omega) ht ST.out.left
      have HR6 := hid hr6
      have HSEC := hid hsec
      have ht' : (t : Int) < L := by omega
      have ht1 : (t : Int) ≤ cl := by omega
      clear hr6 hsec
      obtain ⟨lb, loff, la', lc', rfl, hlb, hlcell, hll, hlen⟩ := HLC.out.at (k := k) (by rw [HL.out]; exact h2)
      have HLK := hid (show Ext.okC V (ls.getD k []) = true from List.all_eq_true.1 HR2.out _ (Cnf.getD_cls ls k (by rw [HL.out]; exact h2)))
      have htq : t < qs.length := by rw [ST.out.ql]; exact ht
      have hqc := ST.out.left.cells t htq
      have hqok := ST.out.left.each _ (List.getElem_mem htq)
      have HQ := hid (show (qs.map (·.1)).getD t [] = qs[t].1 by simp [List.getD, htq])
      generalize ls.getD k [] = lk at hlcell hll hlen HLK
      unfold cqv at hqc
      have hgr : g < wr.heap.size := (ST.out.left.row.lt g rfl).2
      generalize qs[t] = q at hqc hqok HQ
      obtain ⟨L1, hL1⟩ : ∃ L1, L - 1 = L1 := ⟨_, rfl⟩
      have HL1 := hid hL1
      by_cases hcut : cl = t + 1
      all_goals
        first
        | (subst hcut; obtain ⟨o2, c2, V2, hr7, hO7, hb7⟩ := HSEC.out ⟨g, 0, none⟩ 0 (fun h => by omega); rw [show L - (t + 1) = 0 by omega] at hr7)
        | (obtain ⟨o2, c2, V2, hr7, hO7, hb7⟩ := HSEC.out ⟨g, t + 1, none⟩ (cl - (t + 1)) (fun _ => rfl))
        rw [hL1] at hr7 hO7
        clear hL1
        have HR7 := hid hr7
        have z0 := ((HB0r.out.trans (hb7.mono HB0r.out.size)).cell (p := ⟨lb, loff + k, none⟩) hlb).trans hlcell
        have z1 := (hb7.cell (p := ⟨g, t, none⟩) hgr).trans hqc
        have HO7 := hid hO7
        have HB7 := hid hb7
        have HLL := hid hll
        have HQOK := hid hqok
        clear hr7 HSEC hO7 hb7 hll hqok hlcell hqc
        obtain ⟨n1, hn1⟩ : ∃ n1, lk.length = n1 := ⟨_, rfl⟩
        obtain ⟨n2, hn2⟩ : ∃ n2, q.1.length = n2 := ⟨_, rfl⟩
        rw [hn1] at z0 hlen
        rw [hn2] at z1
        have HN1 := hid hn1
        have HN2 := hid hn2
        clear hn1 hn2
        go_wp2_with (first
          | (at_builtin; refine wpList_append_run rfl (.tmp 74) (.tmp 77) 32 32 rfl rfl rfl HR6.out ?_; clear HR6)
          | (at_builtin; refine wpList_append_run rfl (.tmp 79) (.tmp 83) 32 32 rfl rfl rfl HR7.out ?_; clear HR7))
        have z0a : (V2.alloc (.cells #[.slice none 0 0, .slice none 0 0] 42)).cell? ⟨lb, loff + k, none⟩ = some (.slice la' n1 lc') := ((below_box V2 _).cell (p := ⟨lb, loff + k, none⟩) (cell_lt z0)).trans z0
        have z1a : (V2.alloc (.cells #[.slice none 0 0, .slice none 0 0] 42)).cell? ⟨g, t, none⟩ = some (.slice q.2.1 n2 q.2.2) := ((below_box V2 _).cell (p := ⟨g, t, none⟩) (cell_lt z1)).trans z1
        go_region
        obtain ⟨V3, hV3⟩ : ∃ V3, (V2.alloc (.cells #[.slice la' n1 lc', .slice q.2.1 n2 q.2.2] 42)).drew = V3 := ⟨_, rfl⟩
        have hb3 : Below V2.heap.size V2 V3 := by rw [← hV3]; exact (below_box V2 _).drew
        have hx3 : V3.heap[V2.heap.size]? = some (.cells #[.slice la' n1 lc', .slice q.2.1 n2 q.2.2] 42 (0, 0)) := by rw [← hV3]; exact World.alloc_heap_new V2 _
        rw [hV3]
        have HBr3 := hid (HB7.out.trans (hb3.mono HB7.out.size))
        have ST3 := hid (ST.out.on HBr3.out)
        have STR := hid ST.out
        have HB03 := hid (HB0r.out.trans (HBr3.out.mono HB0r.out.size))
        have y0 := (ST3.out.below.cell (p := ⟨w.heap.size, 0, none⟩) hs1).trans HX0.out
        have z0' := (hb3.cell (p := ⟨lb, loff + k, none⟩) (cell_lt z0)).trans z0
        have HO3 := hid (HO7.out.below hb3)
        have HXX := hid hx3
        have u0 := row_cell hx3 0
        have u1 := row_cell hx3 1
        simp only [List.getElem?_toArray, List.getElem?_cons_zero, List.getElem?_cons_succ] at u0 u1
        obtain ⟨x3, hx3e⟩ : ∃ x3, V2.heap.size = x3 := ⟨_, rfl⟩
        rw [hx3e] at HXX u0 u1 ⊢
        have hlt3 : x3 < V3.heap.size := (Array.getElem?_eq_some_iff.1 HXX.out).1
        clear hV3 hb3 hx3 z0a z1a z0 z1 HO7 HB7 hx3e ST HB0r
        by_cases hten : n1 ≤ 10
        · have hten' : (n1 : Int) ≤ 10 := by omega
          have hrl : L1 = ((qs.take t ++ qs.drop (t + 1)).map (·.1)).length := by simp; have := ST3.out.ql; have := HL1.out; omega
          have C14 := hid (good14 V o2 la' q.2.1 L1 c2 lc' q.2.2 ((qs.take t ++ qs.drop (t + 1)).map (·.1)) (lk, q.1) V3 hV6 hrl (by have := HL1.out; omega) (HO3.out.cls HB03.out) (HLL.out.below HB03.out) (HQOK.out.1.below HB03.out) (by simp only; rw [HN1.out]; omega) HQOK.out.2 HLK.out)
          simp only [HN1.out, HN2.out] at C14
          obtain ⟨bg, hbg⟩ : ∃ bg, Ext.good V ((qs.take t ++ qs.drop (t + 1)).map (·.1)) (lk, q.1) (2 ^ V) = bg := ⟨_, rfl⟩
          rw [hbg] at C14
          have HBG := hid hbg
          clear hbg hrl
          go_wp2_with fail
          go_at_call 14
          refine C14.out.mono ?_
          clear C14 u0 u1 y0 z0'
          rintro e V4 ⟨rfl, hb4⟩
          have ST4 := hid (ST3.out.on hb4)
          have HO4 := hid (HO3.out.below hb4)
          have HX4 := hid ((hb4.block x3 hlt3).trans HXX.out)
          have HB04 := hid (HB03.out.trans (hb4.mono HB03.out.size))
          have hsr4 : wr.heap.size ≤ V4.heap.size := Nat.le_trans HBr3.out.size hb4.size
          clear hb4 ST3 HO3 HXX HB03 HBr3
          cases bg
          · go_wp2
            go_roundw
            case rel => exact ⟨k + 1, L, S, _, _, aS, cs2, qs, rs, rfl, rfl, by go_num, by omega, hid ⟨ST4.out.l12, by have := ST4.out.sk; omega, ST4.out.below, ST4.out.ql, ST4.out.rl, ST4.out.left, ST4.out.stack, ST4.out.off, ST4.out.ok⟩⟩
            case measure => simp [intOf]; omega
          · have u0 := row_cell HX4.out 0
            have u1 := row_cell HX4.out 1
            simp only [List.getElem?_toArray, List.getElem?_cons_zero, List.getElem?_cons_succ] at u0 u1
            obtain ⟨V5, hV5⟩ : ∃ V5, V4.alloc (.cells #[.slice la' n1 lc', .slice q.2.1 n2 q.2.2] 42) = V5 := ⟨_, rfl⟩
            have hb5 : Below V4.heap.size V4 V5 := by rw [← hV5]; exact below_box V4 _
            have ST5 := ST4.out.on hb5
            have hx5 : V5.heap[V4.heap.size]? = some (.cells (wqv ((lk, q.1), (la', lc'), (q.2.1, q.2.2))).toArray 42 (0, 0)) := by
              rw [← hV5]
              simp only [wqv, HN1.out, HN2.out]
              exact World.alloc_heap_new V4 _
            obtain ⟨o3, c3, V6, hr6, hS6, hg6⟩ := push_wit w V5 W1.heap.size (.slice aS S cs2) rs ((lk, q.1), (la', lc'), (q.2.1, q.2.2)) V4.heap.size (by have := ST5.rl; have := ST5.sk; omega) ST5.stack ⟨⟨HLL.out, by simp only; rw [HN1.out]; omega⟩, HQOK.out⟩ ST5.below.size hx5
            have hrs := ST5.rl
            rw [hrs] at hr6 hS6
            have hCk : COwn w W1.heap.size V6 (.slice o2 L1 c2) (qs.take t ++ qs.drop (t + 1)) := by
              have hh := HO4.out.below hb5
              refine ⟨own_base (hh.row.kept hg6 ?_) (by have := STR.out.below.size; omega), hh.each⟩
              cases ho : (Value.slice o2 L1 c2).ownBlock with
              | none => exact .inl rfl
              | some b2 =>
                right
                intro e
                have l1 := (hh.row.lt b2 ho).1
                have l2 := STR.out.stack.row.lt b2 e.symm
                omega
            have HST := hid (show St w W1 V cs o2 L1 c2 o3 (S + 1) c3 (k + 1) (qs.take t ++ qs.drop (t + 1)) (rs ++ [((lk, q.1), (la', lc'), (q.2.1, q.2.2))]) V6 from
              ⟨by have := HL1.out; omega, by have := ST5.sk; omega, ST5.below.grown hg6 ST5.below.size (fun k e => (ST5.stack.row.lt k e).1), by simp; have := ST5.ql; have := HL1.out; omega, by simp; exact hrs, hCk, hS6, by
                have hst := ST5.off.step t (by simp; have := ST5.ql; omega) lk (by
                  rw [HQ.out]
                  have h := HBG.out
                  rw [List.map_append, List.map_take, List.map_drop] at h
                  exact h)
                rw [HQ.out] at hst
                rw [List.map_append, List.map_take, List.map_drop, List.map_append]
                exact hst, by
                rw [List.map_append]
                have h1 := ST5.ok
                have h2 : Ext.okC V q.1 = true := List.all_eq_true.1 HR1.out _ (ST5.off.sub _ (by rw [← HQ.out]; exact Cnf.getD_cls _ t (by simp; have := ST5.ql; omega)))
                simp only [Ext.okS, List.all_append, List.map_cons, List.map_nil, List.all_cons, List.all_nil, Bool.and_true, Bool.and_eq_true] at h1 ⊢
                exact ⟨h1, HLK.out, h2⟩⟩)
            have HR6 := hid hr6
            clear hb5 ST5 hx5 hS6 hg6 hCk hrs hr6 ST4 HO4 HX4
            go_wp2_with (at_builtin; refine wpList_append_run rfl (.tmp 107) (.tmp 109) 24 24 rfl rfl rfl HR6.out ?_; clear HR6 u0 u1)
            go_roundw
            case rel => exact ⟨k + 1, L1, S + 1, o2, c2, o3, c3, _, _, rfl, rfl, by go_num, by omega, HST⟩
            case measure => simp [intOf]; omega
        · have hten' : ¬ (n1 : Int) ≤ 10 := by omega
          go_wp2
          go_roundw
          case rel => exact ⟨k + 1, L, S, _, _, aS, cs2, qs, rs, rfl, rfl, by go_num, by omega, hid ⟨ST3.out.l12, by have := ST3.out.sk; omega, ST3.out.below, ST3.out.ql, ST3.out.rl, ST3.out.left, ST3.out.stack, ST3.out.off, ST3.out.ok⟩⟩
          case measure => simp [intOf]; omega
    · have hin' : (Hid True ∧ ¬ (k : Int) < pn) ∨ ((k : Int) < pn ∧ ¬ (k : Int) < ln) ∨ ((k : Int) < pn ∧ (k : Int) < ln ∧ ¬ (0 : Int) < L) := by
        by_cases h1 : k < pn
        · by_cases h2 : k < ln
          · exact .inr (.inr ⟨by omega, by omega, fun h => hin ⟨h1, h2, by omega⟩⟩)
          · exact .inr (.inl ⟨by omega, by omega⟩)
        · exact .inl ⟨trivial, by omega⟩
      clear hin
      have hV16 : V ≤ 16 := by omega
      have hVb : V ≤ 16777216 := by omega
      have hVc : V ≤ 35184372088832 := by omega
      have hSb : S ≤ 8796093022208 := by have := ST.out.sk; omega
      have hLb : L ≤ 8796093022208 := by omega
      have hnb : n ≤ 8796093022208 := by omega
      have hs1' : w.heap.size ≤ W1.heap.size := by omega
      obtain ⟨hpw, hp2⟩ := pow16 V (by omega)
      have hpw2 := hpw
      rw [Nat.min_eq_left (by omega)] at hpw2
      generalize hP : 2 ^ V = P at hpw hp2 hpw2
      clear hP
      obtain ⟨wx, hwx⟩ : ∃ wx, wx = wr := ⟨wr, rfl⟩
      subst hwx
      rcases hin' with ⟨_, h1⟩ | ⟨h1, h2⟩ | ⟨h1, h2, h3⟩
      all_goals
        go_wp2
        go_loopw [13, 14, 15, 16] (fun j _ _ _ wr => ∃ q : Nat, q ≤ P ∧ j = .int .i64 q ∧ Hid (St w W1 V cs al L cl aS S cs2 k qs rs wr)) (fun j _ _ _ _ => P - (intOf j).toNat)
        case atStart => exact ⟨0, Nat.zero_le _, rfl, ST⟩
        case round =>
          clear ST
          obtain ⟨j, hj, rfl, ST⟩ := hrel
          have HB0 := hid (HB1.out.trans (ST.out.below.mono hs1'))
          have y0 := (ST.out.below.cell (p := ⟨w.heap.size, 0, none⟩) hs1).trans HX0.out
          by_cases hjP : j < P
          · have hjP' : (j : Int) < P := Int.ofNat_lt.2 hjP
            have C15 := hid (model15o j V wr (Nat.lt_of_lt_of_le hjP hp2) hV16)
            go_wp2_with fail
            go_at_call 15
            refine C15.out.mono ?_
            clear C15
            rintro e Wa ⟨⟨am, capm, rfl, hM⟩, hba⟩
            have hj16 : (j : Int) ≤ 65536 := Int.ofNat_le.2 (Nat.le_trans hj hp2)
            have HP2 := hid hp2
            clear hpw hpw2 hp2
            have STa := hid (ST.out.on hba)
            have HB0a := hid (HB0.out.trans (hba.mono HB0.out.size))
            have HMa := hid hM.bools
            have hml := Tru.model_len V j
            generalize Tru.model V j = M at HMa hml hM
            have C7 := hid (ext7 am aS V capm S cs2 M (rs.map (·.1)) Wa hml hVb HMa.out (by rw [List.length_map]; exact STa.out.rl) hSb (STa.out.stack.wits HB0a.out))
            clear hba hM ST HB0 y0
            go_wp2_with fail
            go_at_call 7
            refine C7.out.mono ?_
            clear C7
            rintro e Wb ⟨ho, hbb⟩
            rcases ho with ⟨hno, _⟩ | ⟨_, ox, cx, rfl, hMx⟩
            · rw [STa.out.ok] at hno; cases hno
            have STb := hid (STa.out.on hbb)
            have HB0b := hid (HB0a.out.trans (hbb.mono HB0a.out.size))
            have HMb := hid (HMa.out.below hbb)
            have HXb := hid hMx.bools
            have hxl : (Ext.ext M (rs.map (·.1))).length = V := hMx.1
            have HBack := hid (STb.out.off.back M hml)
            have HSame := hid (fun h => STb.out.off.same (m := M) h)
            generalize Ext.ext M (rs.map (·.1)) = X at HXb hxl HBack HSame
            have C16 := hid (holds16 0 al am L cl V capm (qs.map (·.1)) M Wb (by rw [List.length_map]; exact STb.out.ql) hLb hml hVc (STb.out.left.cls HB0b.out).1 (STb.out.left.cls HB0b.out) HMb.out)
            obtain ⟨bl, hbl⟩ : ∃ bl, Cnf.holds (qs.map (·.1)) M = bl := ⟨_, rfl⟩
            rw [hbl] at C16 HBack
            clear hbl hbb hMx STa HB0a HMa
            have hee : ((0 : Int) != 0) = false := by decide
            have hvv : ((V : Int) != (V : Int)) = false := by simp
            go_wp2_with fail
            go_at_call 16
            refine C16.out.mono ?_
            clear C16
            rintro e Wc ⟨rfl, hbc⟩
            have STc := hid (STb.out.on hbc)
            have HB0c := hid (HB0b.out.trans (hbc.mono HB0b.out.size))
            have HMc := hid (HMb.out.below hbc)
            have HXc := hid (HXb.out.below hbc)
            clear hbc STb HB0b HMb HXb
            have hcsb : ∀ c ∈ cs, c.length ≤ 35184372088832 := HC.out.1
            have C16f := hid (fun W (hW : Below w.heap.size w W) (ax : Option Addr) (cx : Nat) (Y : List Bool) (hY : Y.length = V) (hb : Bools W ax Y) => holds16 V a ax n cap V cx cs Y W HN.out hnb hY hVc hcsb (HC.out.below hW) hb)
            clear hcsb
            obtain ⟨bf, hbf⟩ : ∃ bf, Cnf.holds cs M = bf := ⟨_, rfl⟩
            have HBF := hid hbf
            clear hbf
            have v0 := (STc.out.below.cell (p := ⟨w.heap.size, 0, none⟩) hs1).trans HX0.out
            have v1 := (STc.out.below.cell (p := ⟨w.heap.size, 1, none⟩) hs1).trans HX1.out
            have HFin := hid (fun (Wd : World) (hbd : Below Wc.heap.size Wc Wd) => show St w W1 V cs al L cl aS S cs2 k qs rs Wd ∧ Below w.heap.size w Wd ∧ Bools Wd am M ∧ Bools Wd ox X ∧ Wd.cell? ⟨w.heap.size, 0, none⟩ = some (.int .i64 V) ∧ Wd.cell? ⟨w.heap.size, 1, none⟩ = some (.slice a n cap) from
              ⟨STc.out.on hbd, HB0c.out.trans (hbd.mono HB0c.out.size), HMc.out.below hbd, HXc.out.below hbd, ((STc.out.on hbd).below.cell (p := ⟨w.heap.size, 0, none⟩) hs1).trans HX0.out, ((STc.out.on hbd).below.cell (p := ⟨w.heap.size, 1, none⟩) hs1).trans HX1.out⟩)
            cases bl
            · have C16g := hid (C16f.out Wc HB0c.out am capm M hml HMc.out)
              rw [HBF.out] at C16g
              go_wp2_with fail
              go_at_call 16
              refine C16g.out.mono ?_
              clear C16g C16f
              rintro e We ⟨rfl, hbe⟩
              obtain ⟨ste, _, hme, hxe, _, _⟩ := HFin.out We hbe
              have STe := hid ste
              have S9 := hid (sameModel9 ox am V V cx capm X M We hxl hml hVc hVc hxe hme)
              clear ste hme hxe hbe HFin v0 v1
              cases bf
              · go_wp2
                go_roundw
                case rel => exact ⟨j + 1, hjP, by go_num, STe⟩
                case measure => simp only [intOf]; exact meas hjP
              · have hXM : decide (X = M) = true := by rw [HSame.out HBF.out]; simp
                rw [hXM] at S9
                clear hXM
                go_wp2_with fail
                go_at_call 9
                refine S9.out.mono ?_
                clear S9
                rintro e Wf ⟨rfl, hdf⟩
                have STf := hid (STe.out.on hdf.below')
                clear hdf
                go_wp2
                go_roundw
                case rel => exact ⟨j + 1, hjP, by go_num, STf⟩
                case measure => simp only [intOf]; exact meas hjP
            · have C16x := hid (C16f.out Wc HB0c.out ox cx X hxl HXc.out)
              rw [HBack.out rfl] at C16x
              go_wp2_with fail
              go_at_call 16
              refine C16x.out.mono ?_
              clear C16x
              rintro e Wd ⟨rfl, hbd⟩
              obtain ⟨std, hb0d, hmd, hxd, t0, t1⟩ := HFin.out Wd hbd
              have C16g := hid (C16f.out Wd hb0d am capm M hml hmd)
              rw [HBF.out] at C16g
              have STd := hid std
              have HMd := hid hmd
              have HXd := hid hxd
              clear std hb0d hmd hxd hbd HFin v0 v1 C16f
              go_wp2_with fail
              go_at_call 16
              refine C16g.out.mono ?_
              clear C16g
              rintro e We ⟨rfl, hbe⟩
              have STe := hid (STd.out.on hbe)
              have S9 := hid (sameModel9 ox am V V cx capm X M We hxl hml hVc hVc (HXd.out.below hbe) (HMd.out.below hbe))
              clear hbe t0 t1 STd HMd HXd
              cases bf
              · go_wp2
                go_roundw
                case rel => exact ⟨j + 1, hjP, by go_num, STe⟩
                case measure => simp only [intOf]; exact meas hjP
              · have hXM : decide (X = M) = true := by rw [HSame.out HBF.out]; simp
                rw [hXM] at S9
                clear hXM
                go_wp2_with fail
                go_at_call 9
                refine S9.out.mono ?_
                clear S9
                rintro e Wf ⟨rfl, hdf⟩
                have STf := hid (STe.out.on hdf.below')
                clear hdf
                go_wp2
                go_roundw
                case rel => exact ⟨j + 1, hjP, by go_num, STf⟩
                case measure => simp only [intOf]; exact meas hjP
          · have hjP' : ¬ (j : Int) < P := fun h => hjP (Int.ofNat_lt.1 h)
            go_wp2_with fail
            go_at_call 10
            refine (works10 _).mono ?_
            rintro e w9 ⟨rfl, hb9⟩
            have HF := hid (HB0.out.trans (hb9.mono HB0.out.size))
            clear hb9
            go_wp2
            go_ret
            exact ⟨rfl, HF.out⟩
end Go.Proofs.Ytjakfgpgcnbclaa
