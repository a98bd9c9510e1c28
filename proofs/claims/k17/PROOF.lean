import PyProof.Rows.All
import Wide.All
import OpenK.AllK
import Wide.FinOn
import HandS.ForMost
import HandS.Wide
import HandS.IsInst
import HandS.Codes
import HandS.AnyAll
import HandS.EndTab
import PyProof.GenCompD
import HandS.TupMul
import HandS.TupAny
import HandS.Exc
import HandS.TryOnly
import HandS.ExcOwn
import HandS.WordsExc
import HandS.ExcIs
import KE.DataCmp
import KE.GoesMore
import HandS.Conv
import HandS.Style
import HandS.WideBits
import HandS.Zip
import KE.KRevSl
import PySem.Challenge.RW_traymap_k17_whole_ways_of_one_tray
set_option Elab.async false
set_option linter.all false
set_option maxRecDepth 100000
namespace Tm
open PySem PySem.Spec PyProof.Rows L2
/-! ### what leaves all that stood -/
theorem kp_ext {s t : Shared} (k : Keeps s t) : ∀ b o, s.heap.get? b = some o → t.heap.get? b = some o := by
  obtain ⟨h, tk, rfl, e⟩ := k
  exact e
theorem kp_tr {s t u : Shared} (k : Keeps s t) (k' : Keeps t u) : Keeps s u := by
  obtain ⟨h, tk, rfl, e⟩ := k
  obtain ⟨h', tk', rfl, e'⟩ := k'
  exact ⟨h', tk', rfl, fun b o q => e' b o (e b o q)⟩
theorem kp_tk (s : Shared) (n : Nat) : Keeps s { s with toks := n } := ⟨s.heap, n, rfl, fun _ _ q => q⟩
theorem mod_ext {K : PySem.W.Frag} {mg : Str → Option Value} {h h' : Heap} (m : Mod K mg h) (k : ∀ b o, h.get? b = some o → h'.get? b = some o) : Mod K mg h' := by
  obtain ⟨mb, h1, h2⟩ := m.blt
  exact ⟨m.kin.keeps k, m.glob.keeps k, ⟨mb, h1.keeps k, h2⟩, m.nolimit.keeps k⟩
/-- a word about a heap that stays where it grows -/
def Stays (hm : Heap → Prop) : Prop := ∀ h h' : Heap, (∀ b o, h.get? b = some o → h'.get? b = some o) → hm h → hm h'
/-- e gives what R says, and all that stood is left as it was; whatever frames stand around -/
def Lo (prog : Program) (w : World) (K : PySem.W.Frag) (mg : Str → Option Value) (D : Nat) (env : Env) (hm : Heap → Prop) (e : Expr) (R : Value → Prop) : Prop :=
  ∀ (A : Around) (E : Value → Shared → Prop) (s : Shared), A.handled = none → A.depth ≤ D → Mod K mg s.heap → hm s.heap → wpAny (model prog w) A (eval e env) (fun r t => R r ∧ Keeps s t) E s
section
variable {prog : Program} {w : World} {K : PySem.W.Frag} {mg : Str → Option Value} {D : Nat} {env : Env} {hm : Heap → Prop}
theorem Lo.imp {e : Expr} {R R' : Value → Prop} (h : Lo prog w K mg D env hm e R) (i : ∀ r, R r → R' r) : Lo prog w K mg D env hm e R' := fun A E s h1 h2 h3 h4 =>
  wpAny_mono (h A E s h1 h2 h3 h4) (fun r t q => ⟨i r q.1, q.2⟩) fun _ _ x => x
/-- a name of the frame -/
theorem lo_name {x : Str} {pos : Pos} {v : Value} (hk : env.scope.kind = .function) (hl : env.kindOf x = some .local) (hv : ∀ h, hm h → ∃ m, h.Ns env.locals m ∧ m x = some v) (hd : (x == ("__debug__" : Str)) = false := by decide) :
    Lo prog w K mg D env hm (.Name x pos) (fun r => r = v) := fun A E s _ _ _ h4 => by
  obtain ⟨m, h5, h6⟩ := hv _ h4
  exact wpAny_Name (wpAny_loadName_local hk hl h5 h6 ⟨rfl, kp_tk s s.toks⟩) hd
/-- a name of the module -/
theorem lo_glob {x : Str} {pos : Pos} {v : Value} (hk : env.scope.kind = .function) (hl : env.kindOf x = some .globalImplicit) (hg : env.globals = mainGlobals) (hv : mg x = some v) (hd : (x == ("__debug__" : Str)) = false := by decide) :
    Lo prog w K mg D env hm (.Name x pos) (fun r => r = v) := fun A E s _ _ h3 _ =>
  Calls.Name_function_global hk hl (Calls.loadGlobal_global (by rw [hg]; exact h3.glob) hv ⟨rfl, kp_tk s s.toks⟩) hd
/-- a built-in's name -/
theorem lo_blt {x : Str} {pos : Pos} {v : Value} (hk : env.scope.kind = .function) (hl : env.kindOf x = some .globalImplicit) (hg : env.globals = mainGlobals) (hb : env.builtins = builtinsNs) (hv : mg x = none) (hu : bootBuiltins x = some v)
    (hn : x ≠ "__name__" := by decide) (hd : (x == ("__debug__" : Str)) = false := by decide) : Lo prog w K mg D env hm (.Name x pos) (fun r => r = v) := fun A E s _ _ h3 _ => by
  obtain ⟨mb, h5, h6⟩ := h3.blt
  exact Calls.Name_function_global hk hl (Calls.loadGlobal_builtin (by rw [hg]; exact h3.glob) hv (by rw [hb]; exact h5) ((h6 x hn).trans hu) ⟨rfl, kp_tk s s.toks⟩) hd
theorem lo_int {i : Int} {k : Nat} {pos : Pos} : Lo prog w K mg D env hm (.Constant (.int i) k pos) (fun r => ∃ t, r = .int i t) := fun A E s _ _ _ _ =>
  wpAny_Constant_int ⟨⟨_, rfl⟩, kp_tk s _⟩
theorem lo_one {op : BoolOp} {a : Expr} {pos : Pos} {R : Value → Prop} (h : Lo prog w K mg D env hm a R) : Lo prog w K mg D env hm (.BoolOp op [a] pos) R := fun A E s h1 h2 h3 h4 => BoolOp_one (h A E s h1 h2 h3 h4)
/-- a and b: what a is decides -/
theorem lo_and {a b : Expr} {rest : List Expr} {pos : Pos} {c : Bool} {R : Value → Prop} (st : Stays hm) (ha : Lo prog w K mg D env hm a (fun r => r = .bool c)) (hf : c = false → R (.bool false)) (ht : c = true → Lo prog w K mg D env hm (.BoolOp .And (b :: rest) pos) R) :
    Lo prog w K mg D env hm (.BoolOp .And (a :: b :: rest) pos) R := fun A E s h1 h2 h3 h4 => by
  refine BoolOp_and (wpAny_mono (ha A E s h1 h2 h3 h4) (fun r t q => ?_) fun _ _ x => x)
  obtain ⟨rfl, k⟩ := q
  refine wpAny_truthy_bool ?_
  cases c with
  | false => exact ⟨hf rfl, k⟩
  | true => exact wpAny_mono (ht rfl A E t h1 h2 (mod_ext h3 (kp_ext k)) (st _ _ (kp_ext k) h4)) (fun r u q => ⟨q.1, kp_tr k q.2⟩) fun _ _ x => x
theorem lo_not {a : Expr} {pos : Pos} {c : Bool} (ha : Lo prog w K mg D env hm a (fun r => r = .bool c)) : Lo prog w K mg D env hm (.UnaryOp .Not a pos) (fun r => r = .bool (!c)) := fun A E s h1 h2 h3 h4 => by
  refine UnaryOp_ (wpAny_mono (ha A E s h1 h2 h3 h4) (fun r t q => ?_) fun _ _ x => x)
  obtain ⟨rfl, k⟩ := q
  exact PyProof.Rows.not_of (wpAny_truthy_bool ⟨rfl, k⟩)
/-- isinstance(a, T), T a built-in type -/
theorem lo_isi {a : Expr} {T : Str} {Tn : String} {p0 p2 pos : Pos} {v t : Value} {Hk : Heap → Prop} {b : Bool} (st : Stays hm) (hk : env.scope.kind = .function) (hg : env.globals = mainGlobals) (hb : env.builtins = builtinsNs)
    (li : env.kindOf "isinstance" = some .globalImplicit) (mi : mg "isinstance" = none) (lT : env.kindOf T = some .globalImplicit) (mT : mg T = none) (bT : bootBuiltins T = some (.type Tn))
    (ha : Lo prog w K mg D env hm a (fun r => r = v)) (Z : PySem.W.KitX K v t Hk) (hK : ∀ h, hm h → Hk h) (e : PySem.W.kitOne K t (.type Tn) = some b) (hx : v ≠ .builtin "__main__.__loader__#opaque")
    (he : starEach [a, .Name T p2] env = (false, eval a env) :: starEach [.Name T p2] env := by rfl) (hn : T ≠ "__name__" := by decide) (hd : (T == ("__debug__" : Str)) = false := by decide) :
    Lo prog w K mg D env hm (.Call (.Name "isinstance" p0) [a, .Name T p2] [] pos) (fun r => r = .bool b) := fun A E s h1 h2 h3 h4 => by
  refine wpAny_Call_Name_kw (wpAny_mono (lo_blt (D := D) (hm := hm) (pos := p0) hk li hg hb mi (by decide +kernel : bootBuiltins "isinstance" = some (.builtin "isinstance")) (by decide) (by decide) A E s h1 h2 h3 h4) (fun r t1 q => ?_) fun _ _ x => x)
  obtain ⟨rfl, k1⟩ := q
  refine PyProof.Rows.callWith_builtin1 ?_ he (by rfl)
  rw [he]
  have m1 := mod_ext h3 (kp_ext k1)
  have s1 := st _ _ (kp_ext k1) h4
  refine Calls.spliced_cons (wpAny_mono (ha A E t1 h1 h2 m1 s1) (fun r t2 q => ?_) fun _ _ x => x)
  obtain ⟨rfl, k2⟩ := q
  have m2 := mod_ext m1 (kp_ext k2)
  have s2 := st _ _ (kp_ext k2) s1
  refine Calls.spliced_cons (wpAny_mono (lo_blt (D := D) (hm := hm) (pos := p2) hk lT hg hb mT bT hn hd A E t2 h1 h2 m2 s2) (fun r t3 q => ?_) fun _ _ x => x)
  obtain ⟨rfl, k3⟩ := q
  refine Calls.spliced_nil ?_
  exact PySem.W.kia_one Z (mod_ext m2 (kp_ext k3)).kin (hK _ (st _ _ (kp_ext k3) s2)) e hx fun tk => ⟨rfl, kp_tr (kp_tr (kp_tr k1 k2) k3) (kp_tk _ tk)⟩
/-- i <= a <= c of whole numbers -/
theorem lo_chain {a b c : Expr} {pos : Pos} {x y z : Int} (st : Stays hm) (ha : Lo prog w K mg D env hm a (fun r => ∃ t, r = .int x t)) (hb : Lo prog w K mg D env hm b (fun r => ∃ t, r = .int y t)) (hc : Lo prog w K mg D env hm c (fun r => ∃ t, r = .int z t))
    (hl : lastMarks [.LtE, .LtE] [b, c] = false := by with_unfolding_all rfl) : Lo prog w K mg D env hm (.Compare a [.LtE, .LtE] [b, c] pos) (fun r => r = .bool (decide (x ≤ y) && decide (y ≤ z))) := fun A E s h1 h2 h3 h4 => by
  refine Compare_chain (wpAny_mono (ha A E s h1 h2 h3 h4) (fun r t1 q => ?_) fun _ _ x => x) hl
  obtain ⟨⟨tx, rfl⟩, k1⟩ := q
  have m1 := mod_ext h3 (kp_ext k1)
  have s1 := st _ _ (kp_ext k1) h4
  refine chain_link (wpAny_mono (hb A E t1 h1 h2 m1 s1) (fun r t2 q => ?_) fun _ _ x => x)
  obtain ⟨⟨ty, rfl⟩, k2⟩ := q
  have m2 := mod_ext m1 (kp_ext k2)
  have s2 := st _ _ (kp_ext k2) s1
  refine le_int (wpAny_truthy_bool ?_)
  by_cases hxy : x ≤ y
  · rw [decide_eq_true hxy]
    show wpAny _ _ _ _ _ _
    refine chain_last (wpAny_mono (hc A E t2 h1 h2 m2 s2) (fun r t3 q => ?_) fun _ _ x => x)
    obtain ⟨⟨tz, rfl⟩, k3⟩ := q
    exact le_int ⟨by rw [Bool.true_and], kp_tr (kp_tr k1 k2) k3⟩
  · rw [decide_eq_false hxy]
    show _ ∧ _
    exact ⟨by rw [Bool.false_and], kp_tr k1 k2⟩
/-- f(a): f a def of the text of one parameter, its body one return -/
theorem lo_call {f : Addr} {x pn qual fn : Str} {a e : Expr} {params : Arguments} {scope : Scope} {oc kV doc pm cdv ct u : Value} {od an : Option Addr} {osl : Array (Option Value)} {p0 p1 pos : Pos} {R : Value → Prop} (st : Stays hm)
    (hk : env.scope.kind = .function) (hg : env.globals = mainGlobals) (lf : env.kindOf fn = some .globalImplicit) (mf : mg fn = some (.ref f)) (hD : D < recursionLimit)
    (lk : K.lookup f = some ⟨oc, od, .func (PySem.W.fnOf x qual params [.Return (some e) p1] scope .none kV doc pm an cdv ct), osl⟩) (hcd : PySem.W.codeIn K cdv qual = true) (kp : PySem.W.keepIn K (.ref f) = true)
    (S : FnScope [pn] [pn] scope) (hb : Binds K (PySem.W.fnOf x qual params [.Return (some e) p1] scope .none kV doc pm an cdv ct) [pn] [])
    (lp : scope.names.lookup pn = some .local) (ha : Lo prog w K mg D env hm a (fun r => r = u))
    (hbody : ∀ env' : Env, env'.scope = scope → env'.globals = mainGlobals → env'.builtins = builtinsNs → Lo prog w K mg (D + 1) env' (fun h => hm h ∧ ∃ m, h.Ns env'.locals m ∧ m pn = some u) e R)
    (he : starEach [a] env = (false, eval a env) :: starEach [] env := by rfl) (hd : (fn == ("__debug__" : Str)) = false := by decide) :
    Lo prog w K mg D env hm (.Call (.Name fn p0) [a] [] pos) R := fun A E s h1 h2 h3 h4 => by
  refine wpAny_Call_Name_kw (wpAny_mono (lo_glob (D := D) (hm := hm) (pos := p0) hk lf hg mf hd A E s h1 h2 h3 h4) (fun r t1 q => ?_) fun _ _ x => x)
  obtain ⟨rfl, k1⟩ := q
  have m1 := mod_ext h3 (kp_ext k1)
  have s1 := st _ _ (kp_ext k1) h4
  refine PySem.W.callWith_K (h₀ := t1.heap) m1.kin kp ?_ he (by rfl)
  rw [he]
  refine Calls.spliced_cons (wpAny_mono (ha A E t1 h1 h2 m1 s1) (fun r t2 q => ?_) fun _ _ x => x)
  obtain ⟨rfl, k2⟩ := q
  have m2 := mod_ext m1 (kp_ext k2)
  have s2 := st _ _ (kp_ext k2) s1
  refine Calls.spliced_nil ⟨m2.kin, ?_⟩
  have KX := m2.kin
  refine wpAny_call (codeAny_call_function (Nat.lt_of_le_of_lt h2 hD) (KX _ _ lk) rfl S.co S.gen rfl (PySem.W.codeRec_of KX hcd) (hb t2 [r] KX rfl _ _ _ _ ?_))
  refine wpAny_newFunctionEnv_cells S.kind (fun y hy => ?_) fun env' he' s3 x3 => ?_
  · obtain rfl : y = (pn, r) := List.mem_singleton.mp hy
    exact .inl lp
  · have k3 : Keeps t2 s3 := x3.done
    have m3 := mod_ext m2 (kp_ext k3)
    have s3' := st _ _ (kp_ext k3) s2
    refine ⟨m3.nolimit, codeAny_func ?_⟩
    have ns := x3.toInCall.ns
    have hv : bindL env'.kindOf ([pn].zip ([r] ++ [])) (fun _ => none) pn = some r := by
      subst he'
      show bindL _ [(pn, r)] _ pn = some r
      unfold bindL
      simp [bindL, newEnv, Env.kindOf, lp]
    have hb' := hbody env' (by subst he'; rfl) (by subst he'; rfl) (by subst he'; rfl) (A.deeper env')
    refine wpAny_execs_cons (wpAny_Return_some (wpAny_mono (hb' _ s3 h1 (Nat.succ_le_succ h2) m3 ⟨s3', _, ns, hv⟩) (fun r t q => ?_) fun _ _ x => x))
    exact ⟨q.1, kp_tr (kp_tr (kp_tr k1 k2) k3) q.2⟩
end
/-- all(elt for x in t), t a tuple; bs: what elt gives for each item; behind it the def's table may have grown -/
def tAllT (K : PySem.W.Frag) (P : Addr) (C : Hp → V → Bool → Prop) (te : TE) : TE := fun σ H Q => te σ H fun v H1 => ∃ (a : Addr) (xs : List V) (bs : List Bool), v = .ref a ∧ SqT K H1 a xs ∧ bs.length = xs.length ∧
  (∀ (i : Nat) (x : V) (b : Bool), xs[i]? = some x → bs[i]? = some b → C H1 x b) ∧ GxR.TabG H1 P ∧ ∀ H2, GxR.Tabbed P H1 H2 → Q (.bl (bs.all fun b => b)) H2
theorem all_get (bs : List Bool) : (List.range bs.length).all (fun j => (bs[j]?).getD false) = bs.all fun b => b := by
  rw [Bool.eq_iff_iff, List.all_eq_true, List.all_eq_true]
  constructor
  · intro h b hb
    obtain ⟨j, hj, e⟩ := List.getElem_of_mem hb
    have q := h j (List.mem_range.mpr hj)
    rw [List.getElem?_eq_getElem hj, e] at q
    exact q
  · intro h j hj
    rw [List.getElem?_eq_getElem (List.mem_range.mp hj)]
    exact h _ (List.getElem_mem _)
/-- what an element asks: at the item v it gives b, quietly -/
def EltOk (X : Cx) (P : Addr) (scope : Scope) (y : Str) (elt : Expr) (C : Hp → V → Bool → Prop) : Prop :=
  ∀ (pins : List (Addr × Obj)) (σ : L2.St) (H : Hp) (s : Shared) (v : V) (u : Value) (b : Bool), Inv X pins σ H s → RelV v u → C H v b → ∀ cenv : Env, cenv.scope = scope → cenv.globals = X.env.globals → cenv.builtins = builtinsNs →
    Lo X.prog X.w X.K X.mg (X.A.depth + 1) cenv (fun h => (∀ a o, a ≠ P → s.heap.get? a = some o → h.get? a = some o) ∧ ∃ m, h.Ns cenv.locals m ∧ m y = some u) elt (fun r => r = .bool b)
theorem pe_allT {X : Cx} {c P : Addr} {elt iter : Expr} {y : Str} {px p pos gpos : Pos} {scope : Scope} {C : Hp → V → Bool → Prop} {te : TE} {k : Nat}
    (hr : Room k X.A) (hg : Gl X "all") (hm : X.mg "all" = none) (TB : GxR.TabB X.base X.mg c P) (hcode : X.env.code = .ref c) (S : GxR.GenS X.env scope y) (hi : PE X iter te) (hel : EltOk X P scope y elt C)
    (hs : ∀ v, genFold iter X.env v = pure v)
    (he : starEach [.GeneratorExp elt [⟨.Name y px, iter, [], 0⟩] scope gpos] X.env = (false, eval (.GeneratorExp elt [⟨.Name y px, iter, [], 0⟩] scope gpos) X.env) :: starEach [] X.env := by rfl) :
    PE X (.Call (.Name "all" p) [.GeneratorExp elt [⟨.Name y px, iter, [], 0⟩] scope gpos] [] pos) (tAllT X.K P C te) := by
  refine ⟨fun pins s σ H Q I h => ?_⟩
  refine wpAny_Call_Name_kw (ld_blt I hg hm (by decide +kernel : bootBuiltins "all" = some (.builtin "all")) ?_)
  refine PyProof.Rows.callWith_builtin1 ?_ he (by rfl)
  rw [he]
  refine Calls.spliced_cons (wpAny_GeneratorExp_walksQD hr.hd S.co (closure_ok S.free) S.cell S.dot S.loc S.kind (by have z := hr.dp; omega) ?_ hs)
  refine thn (hi.run pins s σ H _ I h) fun xv s1 ⟨v, H1, I1, r1, a, xs, bs, ev, hT, hlen, hC, ⟨ps, hP, htr⟩, q1⟩ => ?_
  subst ev
  cases r1
  obtain ⟨its, rv, ht, hz⟩ := I1.tuple hT
  have lenI : its.length = xs.length := rv.length.symm
  have htl : a < s1.heap.objs.size := by
    obtain ⟨o, e, _⟩ := ht
    exact Heap.lt_size e
  have hPs : s1.heap.get? P = some { cls := .none, data := .fields ps } := I1.hok P _ hP
  have hPl : P < s1.heap.objs.size := Heap.lt_size hPs
  refine wpAny_pyIter_tuple (show s1.heap.IsTuple a its.toArray from ht) ?_
  generalize eo : ({ cls := .type "tuple_iterator", data := .fields #[.ref a, .int 0 0] } : Obj) = o
  have push1 : ∀ b u, s1.heap.get? b = some u → (s1.heap.push o).get? b = some u := fun b u e => Heap.get?_push_of_some _ e
  have szp : (s1.heap.push o).objs.size = s1.heap.objs.size + 1 := Heap.size_push ..
  have limp : (s1.heap.push o).NoLimit := I1.nolimit.push o
  have hcd : PySem.W.CodeHd (s1.heap.push o) c P := TB.code.keeps fun b u e => push1 b u (I1.bk b u e)
  refine ⟨limp, ?_⟩
  refine wpAny_mono (Q := fun _ s3 => ∃ (h3 : Heap) (tk : Nat) (more : Array Value), s3 = { s1 with heap := h3, toks := tk } ∧ Heap.ExtBut P (s1.heap.push o) h3 ∧ (s1.heap.push o).objs.size ≤ h3.objs.size ∧ h3.get? P = some { cls := .none, data := .fields (ps ++ more) } ∧ TriplesOk (ps ++ more).toList) (E := X.xe) ?_ (fun code s3 q3 => ?_) fun _ _ z => z
  · cases hf : codeAmong gpos ps.toList with
    | none =>
      refine wpAny_genexprCodeX hcode (hcd.code (push1 _ _ hPs) htr) (hcd.tab (push1 _ _ hPs)) hf fun c' h' tk hx hge hlt hco' _ htab' _ => ?_
      obtain ⟨o1, vs, f1, tf, fl, tg, inF, tx, tt, op, _, _, _, _, _, _, _, _, _, htr', _⟩ := hco'
      exact ⟨h', tk, _, rfl, hx, Nat.le_trans hge (Nat.le_of_lt hlt), htab'.2, htr'⟩
    | some cv =>
      refine wpAny_genexprCode_hit hcode (hcd.code (push1 _ _ hPs) htr) hf ?_
      exact ⟨s1.heap.push o, s1.toks, #[], rfl, Heap.ExtBut.refl _ _, Nat.le_refl _, by rw [Array.append_empty]; exact push1 _ _ hPs, by rw [Array.append_empty]; exact htr⟩
  · obtain ⟨h3, tk3, more, rfl, hx3, hsz3, hP3, htr3⟩ := q3
    obtain ⟨bm, ob, e1, e2, e3, e4, e5, e6, e7, e8⟩ := TB.bm
    have toH3 : ∀ b u, b ≠ P → s1.heap.get? b = some u → h3.get? b = some u := fun b u hb e => hx3 b u hb (push1 b u e)
    have nPc : cStatics ≠ P := fun e => by
      obtain ⟨_, hns, _⟩ := I1.nolimit
      obtain ⟨o', es, ep, ho, hd, _⟩ := hns
      rw [e, hPs] at ho
      cases ho
      cases hd
    have ltC : cStatics < s1.heap.objs.size := let ⟨_, hns, _⟩ := I1.nolimit; hns.lt
    have ltA : a ≠ P := fun e => by
      obtain ⟨o', e', c', _⟩ := ht
      rw [e, hPs] at e'
      cases e'
      cases c'
    refine wpAny_builtinsFor (m := X.mg) (by rw [I1.ok.glob]; exact ((I1.mod.glob.keeps I1.bk).push o).extBut hx3 TB.gP) e1 e2 (toH3 _ _ e4 (I1.bk _ _ e5)) e6 e7 e8 ?_
    have itl : s1.heap.objs.size < h3.objs.size := by omega
    refine ⟨s1.heap.objs.size, [s1.heap.objs.size, a], [s1.heap.objs.size], its.toArray.size, _, _, (fun _ => true), (fun i r => ∃ b, bs[i]? = some b ∧ r = .bool b), rfl, fun A' hA => Walks.tuple hA _ a (Nat.ne_of_lt htl) its.toArray, ⟨?_, ?_⟩, ?_, limp.extBut hx3 nPc, ?_, ?_, ?_⟩
    · have e9 : (s1.heap.push o).get? s1.heap.objs.size = some o := Heap.get?_push_size _ (by rw [← eo]; rfl)
      have e10 := hx3 _ _ (fun z => Nat.ne_of_lt hPl z.symm) e9
      subst eo
      exact ⟨_, e10, rfl, rfl⟩
    · obtain ⟨o', e', r'⟩ := ht
      exact ⟨o', toH3 _ _ ltA e', r'⟩
    · intro b hb
      rcases List.mem_cons.mp hb with z | z
      · rw [z]
        exact itl
      · rw [List.mem_singleton.mp z]
        exact Nat.lt_trans htl itl
    · intro z
      exact Nat.ne_of_lt ltC (List.mem_singleton.mp z)
    · intro href hhref
      refine ⟨fun A' E' i v s₂ m₂ hA _ _ _ hn hmv hk => ?_, fun A' E' i v s₂ m₂ hA hdp _ hv _ hn hmv hk => ?_⟩
      · simp only [List.forIn_nil]
        exact wpAny_pure ⟨rfl, kp_tk _ _⟩
      · have hv' : its[i]? = some v := by
          rw [← hv]
          simp
        obtain ⟨hi1, _⟩ := List.getElem?_eq_some_iff.mp hv'
        have hi2 : i < xs.length := by omega
        have hi3 : i < bs.length := by omega
        obtain ⟨u, hu, ru⟩ := rv.get (List.getElem?_eq_getElem hi2)
        rw [hv'] at hu
        cases hu
        have hold : ∀ b u, b ≠ P → s1.heap.get? b = some u → s₂.heap.get? b = some u := fun b u hb e => by
          have hl := Heap.lt_size e
          refine hk b (List.mem_range.mpr (Nat.lt_trans hl itl)) (fun z => ?_) u (hhref b u (toH3 b u hb e))
          exact Nat.ne_of_lt hl (List.mem_singleton.mp z)
        have hmod : Mod X.K X.mg s₂.heap := mod_ext I1.mod fun b u e => hold b u (fun z => by
          have n := (I1.bs b u e).2
          rw [z, hP] at n
          cases n) (I1.bk b u e)
        refine wpAny_mono (hel pins σ H1 s1 _ v bs[i] I1 ru (hC i _ _ (List.getElem?_eq_getElem hi2) (List.getElem?_eq_getElem hi3)) (genEnv scope (cloFrom X.env.cells scope.names []) h3.objs.size code builtinsNs X.env) rfl rfl rfl A' E' s₂ hA hdp hmod ⟨hold, m₂, hn, hmv⟩) (fun r t q => ?_) fun _ _ z => z
        exact ⟨⟨_, List.getElem?_eq_getElem hi3, q.1⟩, q.2⟩
    · intro g h5 tk5 gs hgb hag hsz5 hk5 W5 hat
      simp only [GxR.passing_true, List.length_range] at W5
      have W6 := W5.in4_1
      refine Calls.spliced_nil (call_all_walkS (W6.self 0 _ _ _ hat ⟨g, _, _, _, _, _, _, fun j => (bs[j]?).getD false, rfl, W6, hat, ?_, fun s' hmv => ?_⟩))
      · intro j r sj Qj Ej hr' hQj
        obtain ⟨i, hij, b, hb, rfl⟩ := hr'
        obtain ⟨hj, ej⟩ := List.getElem?_eq_some_iff.mp hij
        rw [List.getElem_range] at ej
        subst ej
        have hQ2 : Qj ((bs[j]?).getD false) sj := hQj
        rw [hb] at hQ2
        exact wpAny_truthy_bool hQ2
      · have nw : ∀ b u, s1.heap.get? b = some u → b ∉ h3.objs.size :: [s1.heap.objs.size] := fun b u e hb => by
          have hl := Heap.lt_size e
          rcases List.mem_cons.mp hb with z | z
          · rw [z] at hl
            exact absurd (Nat.lt_trans itl hl) (Nat.lt_irrefl _)
          · rw [List.mem_singleton.mp z] at hl
            exact Nat.lt_irrefl _ hl
        have J := GxR.inv_tab (more := more) (h' := s'.heap) (g' := s'.gens) (d' := s'.drawn) (t' := s'.toks) I1 hP (fun b u hb e => hmv.heap b u (nw b u e) (hk5 b u (toH3 b u hb e)))
          (hmv.heap P _ (nw P _ hPs) (hk5 P _ hP3)) (AllBare.movedS (I1.bare.push hgb) hmv)
        rw [GxR.sh_eta s1 s' hmv.os] at J
        refine ⟨.bl (bs.all fun b => b), upd H1 P (.tbl (ps ++ more)), J, ?_, q1 _ ⟨⟨ps ++ more, upd_same, htr3⟩, fun b hb => upd_ne hb⟩⟩
        have e11 : its.toArray.size = bs.length := by
          rw [List.size_toArray]
          omega
        rw [e11, all_get]
        rfl
/-! ### heaps -/
theorem same_upd {H : Hp} {p : Addr} {o : HO} (h : H p = none) : Same H (upd H p o) := fun b x e => by
  rw [upd_ne (ne_of_none e h)]
  exact e
theorem Same.tup {K : PySem.W.Frag} {H H' : Hp} {a : Addr} {xs : List V} (e : Same H H') (h : SqT K H a xs) : SqT K H' a xs := by
  rcases h with (h | ⟨o, h⟩) | h
  · exact .inl (.inl (e _ _ h))
  · exact .inl (.inr ⟨o, e _ _ h⟩)
  · exact .inr h
/-- the source of draws: at p the list of the cells' list at l, a number held and a seed -/
def Sc (p l : Addr) (H : Hp) : Prop := p ≠ l ∧ ∃ (ns : List Int) (a b : Int), H p = some (.lst [.ref l, .int a, .int b]) ∧ H l = some (.lst (ns.map V.int)) ∧ 0 ≤ a ∧ 0 ≤ b ∧ b < 998244353
/-- but for p and l all that was tracked is as it was -/
def Kp (p l : Addr) (H H' : Hp) : Prop := ∀ b o, b ≠ p → b ≠ l → H b = some o → H' b = some o
theorem Kp.refl {p l : Addr} (H : Hp) : Kp p l H H := fun _ _ _ _ e => e
theorem Kp.trans {p l : Addr} {H H1 H2 : Hp} (a : Kp p l H H1) (b : Kp p l H1 H2) : Kp p l H H2 := fun c o h1 h2 e => b c o h1 h2 (a c o h1 h2 e)
theorem Kp.upd {p l q : Addr} {o : HO} {H H1 : Hp} (a : Kp p l H H1) (h : H1 q = none) : Kp p l H (L2.upd H1 q o) := fun c u h1 h2 e => same_upd h c u (a c u h1 h2 e)
theorem Kp.updp {p l : Addr} {o : HO} {H H1 : Hp} (a : Kp p l H H1) : Kp p l H (L2.upd H1 p o) := fun c u h1 h2 e => by
  rw [upd_ne h1]
  exact a c u h1 h2 e
theorem Kp.updl {p l : Addr} {o : HO} {H H1 : Hp} (a : Kp p l H H1) : Kp p l H (L2.upd H1 l o) := fun c u h1 h2 e => by
  rw [upd_ne h2]
  exact a c u h1 h2 e
theorem Sc.upd {p l q : Addr} {o : HO} {H : Hp} (a : Sc p l H) (h : H q = none) : Sc p l (L2.upd H q o) := by
  obtain ⟨n, ns, x, y, e1, e2, r⟩ := a
  exact ⟨n, ns, x, y, same_upd h _ _ e1, same_upd h _ _ e2, r⟩
theorem Sc.same {p l : Addr} {H H' : Hp} (a : Sc p l H) (h : Same H H') : Sc p l H' := by
  obtain ⟨n, ns, x, y, e1, e2, r⟩ := a
  exact ⟨n, ns, x, y, h _ _ e1, h _ _ e2, r⟩
theorem Kp.of_same {p l : Addr} {H H' : Hp} (h : Same H H') : Kp p l H H' := fun b o _ _ e => h b o e
theorem Sc.ne {p l b : Addr} {H : Hp} (a : Sc p l H) (h : H b = none) : b ≠ p ∧ b ≠ l := by
  obtain ⟨n, ns, x, y, e1, e2, r⟩ := a
  exact ⟨(ne_of_none e1 h).symm, (ne_of_none e2 h).symm⟩
/-- what was free behind is free ahead -/
theorem Kp.free {p l b : Addr} {H H' : Hp} (k : Kp p l H H') (a : Sc p l H') (h : H' b = none) : H b = none := by
  cases q : H b with
  | none => rfl
  | some o =>
    have n := a.ne h
    rw [k b o n.1 n.2 q] at h
    cases h
theorem dpAll_int {K : PySem.W.Frag} {H : Hp} : ∀ ns : List Int, DpAll K H (ns.map V.int) (ns.map PyData.int)
  | [] => .nil
  | n :: r => .cons (.int n) (dpAll_int r)
theorem canLay_ints : ∀ ns : List Int, PyData.canLayAll0 (ns.map PyData.int) = true
  | [] => by simp [PyData.canLayAll0]
  | n :: r => by
    have ih := canLay_ints r
    simp only [List.map_cons, PyData.canLayAll0, PyData.canLay0, Bool.true_and]
    exact ih
theorem depth_ints : ∀ ns : List Int, PyData.depthAll (ns.map PyData.int) ≤ 1
  | [] => by simp [PyData.depthAll]
  | n :: r => by
    have ih := depth_ints r
    simp only [List.map_cons, PyData.depthAll, PyData.depth]
    omega
theorem shaped_ints (ns : List Int) : SeqAt.shaped (.list (ns.map PyData.int)) = true := by
  have h1 := canLay_ints ns
  have h2 := depth_ints ns
  unfold SeqAt.shaped
  rw [show PyData.canLay0 (.list (ns.map PyData.int)) = PyData.canLayAll0 (ns.map PyData.int) by simp only [PyData.canLay0], h1, Bool.true_and]
  refine decide_eq_true ?_
  rw [show PyData.depth (.list (ns.map PyData.int)) = PyData.depthAll (ns.map PyData.int) + 1 by simp only [PyData.depth]]
  omega
theorem eqv_nil : ∀ ns : List Int, PyData.eqv (.list (ns.map PyData.int)) (.list []) = ns.isEmpty
  | [] => by simp [PyData.eqv, PyData.eqvAll]
  | n :: r => by simp [PyData.eqv, PyData.eqvAll]
theorem map_get {ns : List Int} {i : Nat} {x : V} (h : (ns.map V.int)[i]? = some x) : ∃ n, ns[i]? = some n ∧ x = .int n := by
  rw [List.getElem?_map] at h
  cases e : ns[i]? with
  | none =>
    rw [e] at h
    cases h
  | some n =>
    rw [e] at h
    exact ⟨n, rfl, (Option.some.inj h).symm⟩
theorem lg {m : Int} (h : 0 < m) (h2 : m ≤ 1000000) : m.natAbs.log2 < 9000 := Nat.lt_of_lt_of_le (PySem.Flt.log2_lt_of (by decide : 0 < 64) (by omega)) (by decide)
/-- what the top has left of each def's table -/
def TabsOf (q : Program) (mg : Str → Option Value) (h : Heap) : Prop := ∀ e ∈ recsOf q, ∃ a o fd c P, mg e.name = some (.ref a) ∧ h.get? a = some o ∧ o.data = .func fd ∧ fd.code = .ref c ∧ h.IsCode c P #[] ∧ h.TableAt c P #[]
/-- the end of a law that reaches defs with generator expressions -/
theorem walk_tab {l : PySem.W.OpenLaw} {n k : Nat} {q : Program} {loose : List Str} {XP : (Str → Option Value) → Heap → Prop} {YP : World → Heap → Prop} {d : DefRec} {K : Params → PySem.W.Frag} {x : Str}
    (hn : l.most = some n) (hn2 : n ≤ sizeLine) (hdf : d.params.defaults = []) (hr : Room k callerA) (hY : ∀ (w : World) (h : Heap), YP w h → (K w.params).In h)
    (F : ∀ (w : World) (mg : Str → Option Value) (fa : Addr) (h : Heap), (K w.params).In h → h.Ns mainGlobals mg → mg d.name = some (.ref fa) → TabsOf q mg h → LamX.LawAtS l w (K w.params) CX0 k n x mg fa h) :
    PySem.W.WalkO q loose XP YP l.row.toRowW d [] (fun f vs => PySem.call f vs) := by
  refine Att.attach_callB hn hdf fun w t0 t1 mg mb fa o pm cd doc a vs ns G Y _ _ _ hmg hobj hints hlen hbits hg => ?_
  obtain ⟨fd, cs, sp, hT, nT, C, hb, hsp, hF⟩ := F w mg fa _ (hY w _ Y) G.T.g hmg G.T.tab
  refine LamX.law_callTs (hY w _ Y) G.T.g G.T.b G.T.builtins G.T.nolimit hg hT nT C G.T.bmain hobj hints ?_ hr hF hb ?_ fun _ _ _ z => z
  · exact Nat.le_trans hlen hn2
  · exact fun H hH hS => hsp H a ns hlen hbits hH hS
/-- the table of the def f, whose code object the head has written out -/
theorem tab_of {q : Program} {mg : Str → Option Value} {h : Heap} {K : PySem.W.Frag} {f c P : Addr} {x qual : Str} {params : Arguments} {body : List Stmt} {scope : Scope} {oc kV doc pm ct e : Value} {od an dd : Option Addr} {osl sl : Array (Option Value)} {vs : Array Value} (X : K.In h) (T : TabsOf q mg h)
    (hr : ((recsOf q).any fun e => e.name == x) = true) (hf : mg x = some (.ref f)) (lk : K.lookup f = some ⟨oc, od, .func (PySem.W.fnOf x qual params body scope .none kV doc pm an (.ref c) ct), osl⟩)
    (lc : K.lookup c = some ⟨e, dd, .fields vs, sl⟩) (h11 : vs[11]? = some (.ref P)) : h.get? P = some { cls := .none, data := .fields #[] } ∧ PySem.W.CodeHd h c P := by
  obtain ⟨r, hm, hn⟩ := List.any_eq_true.mp hr
  have hn' : r.name = x := beq_iff_eq.mp hn
  obtain ⟨a, o, fd, c', P', h1, h2, h3, h4, h5, h6⟩ := T r hm
  rw [hn', hf] at h1
  cases h1
  rw [X _ _ lk] at h2
  cases h2
  cases h3
  cases h4
  have hd := PySem.W.CodeHd.of h5 h6
  obtain ⟨⟨oc', vc, e1, _, e3, e4⟩, hP⟩ := h6
  rw [X _ _ lc] at e1
  cases e1
  cases e3
  rw [h11] at e4
  cases e4
  exact ⟨hP, hd⟩
/-! ### < of data at any depth -/
def rLtD (K : PySem.W.Frag) : R2 := fun x y H Q => ∃ d e, Dp K H x d ∧ Dp K H y e ∧ PySem.W.alike d e = true ∧ d ≠ .none ∧ d.depth ≤ 64 ∧ Q (.bl (PySem.W.dataLt d e)) H
theorem op_ltD {X : Cx} (hu : X.A.units + 64 < cLine) : OpR X (compareOp .Lt) (rLtD X.K) := by
  intro pins s σ H x y v u Q I rx ry h
  obtain ⟨d, e, hd, he, ha, hn, hz, q⟩ := h
  obtain ⟨as, r1⟩ := Dp.reads I d x v hd rx
  obtain ⟨bs, r2⟩ := Dp.reads I e y u he ry
  refine PySem.W.lt_data r1 r2 ha hn ?_ ⟨.bl _, H, I, rfl, q⟩
  have := Nat.min_le_left d.depth e.depth
  omega
/-! ### (a, ..) * k for k = 0 and 1 too -/
theorem tup_mul1 (l : Addr) (items : Array Value) (n : Nat) (dd : Option Addr) (sl : Array (Option Value)) (u : Tok) :
    Meets (Builtin.«tuple.__mul__» ⟨[.ref l, .int 1 u], []⟩) (fun _ R s => s.heap.get? l = some { cls := .type "tuple", dict := dd, data := .seq items n, slots := sl } ∧ R (.ok (.ret (.ref l))) s) :=
  .of_wp fun prog w A R s h => by
    obtain ⟨hp, g, d, tk, os⟩ := s
    obtain ⟨hl, h⟩ := h
    have f1 := AutoSeq1.idx_int
    wp_walk using AutoSeq1.wpAny_loadPart' hl
    repeat (first
      | (refine wpAny_ite_true (decide_eq_true (by simp)) ?_; wp_walk using AutoSeq1.wpAny_loadPart' hl)
      | (refine wpAny_ite_false (decide_eq_false (by simp)) ?_; wp_walk using AutoSeq1.wpAny_loadPart' hl))
    exact ⟨_, rfl, h⟩
theorem tup_mul0 (l : Addr) (items : Array Value) (n : Nat) (dd : Option Addr) (sl : Array (Option Value)) (u : Tok) (hne : items.isEmpty = false) :
    Meets (Builtin.«tuple.__mul__» ⟨[.ref l, .int 0 u], []⟩) (fun _ R s => s.heap.get? l = some { cls := .type "tuple", dict := dd, data := .seq items n, slots := sl } ∧
      R (.ok (.ret (.ref s.heap.objs.size))) { s with heap := s.heap.push { cls := .type "tuple", data := .seq #[] }, toks := s.toks }) :=
  .of_wp fun prog w A R s h => by
    obtain ⟨hp, g, d, tk, os⟩ := s
    obtain ⟨hl, h⟩ := h
    have f1 := AutoSeq1.idx_int
    wp_walk using AutoSeq1.wpAny_loadPart' hl
    repeat (first
      | (refine wpAny_ite_false (decide_eq_false (by simp [hne])) ?_; wp_walk using AutoSeq1.wpAny_loadPart' hl)
      | (refine wpAny_ite_true (decide_eq_true (by simp)) ?_; wp_walk using AutoSeq1.wpAny_loadPart' hl))
    exact ⟨_, rfl, h⟩
def rRepA (K : PySem.W.Frag) : R2 := fun x y H Q => ∃ l k xs, x = .ref l ∧ y = .int k ∧ SqT K H l xs ∧ xs ≠ [] ∧ 0 ≤ k ∧ k ≤ 1000 ∧ xs.length ≤ 1000 ∧ (k = 1 → Q (.ref l) H) ∧ (k ≠ 1 → ∀ p, H p = none → Q (.ref p) (upd H p (.tup (List.replicate k.toNat xs).flatten)))
theorem op_repA {X : Cx} : OpR X (binaryOp .Mult) (rRepA X.K) := by
  intro pins s σ H x y v u Q I rx ry h
  obtain ⟨l, k, xs, ex, ey, hT, hne, h0, h1, hz, q1, q2⟩ := h
  by_cases hk : 2 ≤ k
  · exact op_repT pins s σ H x y v u Q I rx ry ⟨l, k, xs, ex, ey, hT, hne, hk, h1, hz, q2 (by omega)⟩
  · subst ex ey
    cases rx
    obtain ⟨t, rfl⟩ := ry
    obtain ⟨its, r, ⟨⟨cls, dd, data, sl⟩, ho, hc, n, hd⟩, hs⟩ := I.tuple hT
    simp only at hc hd
    subst hc hd
    have hi : its.toArray.isEmpty = false := by
      cases its with
      | nil => exact absurd (List.eq_nil_of_length_eq_zero r.length) hne
      | cons a b => rfl
    rcases (show k = 0 ∨ k = 1 by omega) with rfl | rfl
    · refine wpAny_binaryOp_repeat_ref (T := "tuple") (U := "int") (by decide) ⟨_, ho, rfl⟩ (fun s' => typeIs_int s' 0 t) noFill_tuple_mul F.fills_int_mul F.slot_int_rmul repeat_tuple F.slot_int_index.lookup
        (call_meets F.slot_int_rmul (typeIs_int s 0 t) F.entry_int_rmul (F.args_int_rmul_2 _ _) (int_rmul_tuple 0 t l its.toArray n dd sl)
          ⟨ho, rfl, ⟨_, ho, rfl⟩, call_meets F.slot_tuple_mul ⟨_, ho, rfl⟩ F.entry_tuple_mul (F.args_tuple_mul_2 _ _) (tup_mul0 l its.toArray n dd sl t hi) ⟨ho, ?_⟩⟩)
      refine ⟨.ref s.heap.objs.size, _, I.laid (t' := s.toks) (o := .tup (List.replicate (0 : Int).toNat xs).flatten) (fun b ob q => Heap.get?_push_of_some _ q) (Nat.le_refl _) ?_, rfl, q2 (by decide) _ (I.hok.fresh (Nat.le_refl _))⟩
      exact ⟨Nat.zero_le _, [], .nil, IsTup.new _ _⟩
    · exact wpAny_binaryOp_repeat_ref (T := "tuple") (U := "int") (by decide) ⟨_, ho, rfl⟩ (fun s' => typeIs_int s' 1 t) noFill_tuple_mul F.fills_int_mul F.slot_int_rmul repeat_tuple F.slot_int_index.lookup
        (call_meets F.slot_int_rmul (typeIs_int s 1 t) F.entry_int_rmul (F.args_int_rmul_2 _ _) (int_rmul_tuple 1 t l its.toArray n dd sl)
          ⟨ho, rfl, ⟨_, ho, rfl⟩, call_meets F.slot_tuple_mul ⟨_, ho, rfl⟩ F.entry_tuple_mul (F.args_tuple_mul_2 _ _) (tup_mul1 l its.toArray n dd sl t) ⟨ho, ⟨.ref l, H, I, rfl, q1 rfl⟩⟩⟩)
/-! ### isinstance of the error that a suite holds -/
def rIsX (K : PySem.W.Frag) (D a : Addr) (cls : Value) (d : Option Addr) : List V → Hp → VK → Prop := fun xs H Q => cls = .ref D ∧ d = none ∧ rIsE K D a xs H Q
theorem call_isX {X : Cx} {a D : Addr} {oe : Obj} {cls : Value} {d : Option Addr} {pn : List (Addr × Obj)} (C : ExcC X.K D) (hz : Zc cls d oe) (hf : ∃ vs, oe.data = .fields vs) : CallR (X.suite a ((a, oe) :: pn)) (.builtin "isinstance") (rIsX X.K D a cls d) := by
  intro pins s σ H xs us Q I r h
  obtain ⟨rfl, rfl, h⟩ := h
  exact call_isE C hz hf pins s σ H xs us Q I r h
/-- .. with a tuple of classes -/
def rIsXT (K : PySem.W.Frag) (D a : Addr) (cls : Value) (d : Option Addr) : List V → Hp → VK → Prop := fun xs H Q => cls = .ref D ∧ d = none ∧ ∃ (tp : Addr) (cs : List V) (us : List Value) (b : Bool), xs = [.ref a, .ref tp] ∧ H tp = some (.tup cs) ∧ Paired ClsV cs us ∧ PySem.W.kitAny K (.ref D) us = some b ∧ Q (.bl b) H
theorem call_isXT {X : Cx} {a D : Addr} {oe : Obj} {cls : Value} {d : Option Addr} {pn : List (Addr × Obj)} (C : ExcC X.K D) (hz : Zc cls d oe) (hf : ∃ vs, oe.data = .fields vs) : CallR (X.suite a ((a, oe) :: pn)) (.builtin "isinstance") (rIsXT X.K D a cls d) := by
  intro pins s σ H xs us Q I r h
  obtain ⟨rfl, rfl, tp, cs, ws, b, rfl, hT, k, e, q⟩ := h
  obtain ⟨u1, u2, rfl, r1, r2⟩ := vals2 r
  cases (show u1 = Value.ref a from r1)
  cases (show u2 = Value.ref tp from r2)
  obtain ⟨hget, _⟩ := I.pin (a, oe) (List.mem_append.mpr (.inl List.mem_cons_self))
  obtain ⟨vs, hv⟩ := hf
  have J : PySem.W.InstAt s.heap a oe D none := by
    obtain ⟨oc, od, oda, osl⟩ := oe
    obtain ⟨h1, h2⟩ := hz
    dsimp only at h1 h2 hv
    subst h1 h2 hv
    exact ⟨hget, rfl, rfl, trivial⟩
  obtain ⟨_, its, rv, o, h1, h2, n, h3⟩ := (show ObjOk X.prog X.w H s.heap tp (.tup cs) from I.hok tp _ hT)
  have e3 := ClsV.all k rv
  subst e3
  obtain ⟨oc, od, dt, sl⟩ := o
  simp only at h2 h3
  subst h2 h3
  exact PySem.W.kia_tup (PySem.W.handS_kitx_exc C.hg C.hk C.hs C.hd C.ha C.hn C.ht C.hm) I.kIn J h1 e (fun z => nomatch z) fun tk => ⟨.bl b, H, I.kept (t' := tk) fun _ _ z => z, rfl, q⟩
/-! ### for i, x in enumerate(t), t a tuple -/
theorem enum_new {v : Value} {o : Obj} {Hv : Heap → Prop} (B : Begins v o Hv) :
    Meets (Builtin.«enumerate.__new__» ⟨[.type "enumerate", v], []⟩) (fun _ R s => Hv s.heap ∧
      R (.ok (.ret (.ref (s.heap.push o).objs.size))) { s with heap := (s.heap.push o).push { cls := .type "enumerate", data := .fields #[.none, .bool false, .ref s.heap.objs.size, rawInt 0, .none, .none] } }) :=
  .of_wp fun prog w A R s h => by
    obtain ⟨hp, g, d, tk, os⟩ := s
    obtain ⟨hv, h⟩ := h
    have hsub := sub_enumerate
    have q1 : ∀ {A1 : Around} {E1 : Value → Shared → Prop} {Q1 : Value → Shared → Prop}, Q1 (.ref hp.objs.size) ⟨hp.push o, g, d, tk, os⟩ → wpAny (model prog w) A1 (pyIter v) Q1 E1 ⟨hp, g, d, tk, os⟩ := fun q => B.iter prog w _ _ ⟨hp, g, d, tk, os⟩ _ hv q
    wp_walk using q1
    refine wpAny_stack_any fun st => wpAny_pure ?_
    split
    · rename_i c _ _ _ _ _
      cases (c == Value.type "enumerate") <;> (wp_walk using q1; exact ⟨_, rfl, h⟩)
    · wp_walk using q1
      exact ⟨_, rfl, h⟩
theorem call_enumT {prog : Program} {w : World} {A : Around} {E : Value → Shared → Prop} {s : Shared} {t : Addr} {items : Array Value} {Q : Value → Shared → Prop} (ht : s.heap.IsTuple t items)
    (h : ∀ h', IsEnum h' (s.heap.objs.size + 1) s.heap.objs.size 0 .none → h'.IsTupleIter s.heap.objs.size t 0 → (∀ b o, s.heap.get? b = some o → h'.get? b = some o) → Q (.ref (s.heap.objs.size + 1)) { s with heap := h' }) :
    wpAny (model prog w) A (call (.type "enumerate") [.ref t]) Q E s := by
  refine callType_new F.called_enumerate (by decide) (F.typeCall_enumerate_1 _) (F.newCall_enumerate_1 _) (fun obj => F.args_object_init_2 obj _) F.entry_enumerate_new (enum_new (begins_tuple t items)) ⟨ht, ?_⟩
  generalize eo : ({ cls := .type "tuple_iterator", data := .fields #[.ref t, .int 0 0] } : Obj) = o
  have hz : (s.heap.push o).objs.size = s.heap.objs.size + 1 := Heap.size_push ..
  have fo : o.isFreed = false := by rw [← eo]; rfl
  have he : IsEnum ((s.heap.push o).push { cls := .type "enumerate", data := .fields #[.none, .bool false, .ref s.heap.objs.size, rawInt 0, .none, .none] }) (s.heap.objs.size + 1) s.heap.objs.size 0 .none := by
    have q := Heap.get?_push_size (s.heap.push o) (o := { cls := .type "enumerate", data := .fields #[.none, .bool false, .ref s.heap.objs.size, rawInt 0, .none, .none] }) rfl
    rw [hz] at q
    exact q
  have hi : ((s.heap.push o).push { cls := .type "enumerate", data := .fields #[.none, .bool false, .ref s.heap.objs.size, rawInt 0, .none, .none] }).IsTupleIter s.heap.objs.size t 0 := by
    refine ⟨o, Heap.get?_push_of_some _ (Heap.get?_push_size _ fo), ?_, ?_⟩
    · rw [← eo]
    · rw [← eo]
      rfl
  show _ ∧ _
  rw [hz]
  exact ⟨⟨_, he, rfl⟩, h _ he hi fun b u x => Heap.get?_push_of_some _ (Heap.get?_push_of_some _ x)⟩
def ItE (K : PySem.W.Frag) (a : Addr) : It :=
  ⟨fun i H => ∃ (xs : List V) (x : V), SqT K H a xs ∧ xs[i]? = some x, fun i H v H' => ∃ T x, v = .ref T ∧ H T = none ∧ H' = upd H T (.tup [.int (i : Nat), x]) ∧ ∀ xs, SqT K H a xs → xs[i]? = some x, fun i H => ∃ xs : List V, SqT K H a xs ∧ xs.length ≤ i⟩
theorem turn_enumT {P : Program} {w : World} {K : PySem.W.Frag} {elts : List Expr} {kk : Nat} {tpos : Pos} (a e it : Addr) (hea : e ≠ a) (hia : a ≠ it) (hne : e ≠ it) :
    Turn P w K (.Tuple elts kk tpos) (ItE K a) [e, it] e (fun i h => (∃ old, IsEnum h e it ((i : Nat) : Int) old) ∧ h.IsTupleIter it a i) where
  mem := by simp
  obj := fun i h st b hb => by
    obtain ⟨⟨old, he⟩, ⟨o, ho, hc, hd⟩⟩ := st
    simp only [List.mem_cons, List.not_mem_nil, or_false] at hb
    rcases hb with rfl | rfl
    · exact ⟨_, he, fun v q => nomatch q⟩
    · exact ⟨o, ho, fun v q => by rw [hd] at q; cases q⟩
  keep := fun i h h' st k => let ⟨⟨old, he⟩, hi⟩ := st; ⟨⟨old, k e (by simp) _ he⟩, hi.at fun o q => k it (by simp) o q⟩
  item := by
    intro X hP hw hK hc i pins s σ H E I hf st hg
    subst hP hw hK
    obtain ⟨⟨old, he⟩, hit⟩ := st
    obtain ⟨xs, x, hq, hx⟩ := hg
    obtain ⟨its, rv, p, hz⟩ := I.tuple hq
    obtain ⟨u, hu, ru⟩ := rv.get hx
    have hel : e < s.heap.objs.size := Heap.lt_size he
    have hil : it < s.heap.objs.size := by
      obtain ⟨_, q, _⟩ := hit
      exact Heap.lt_size q
    have hlt : i < its.toArray.size := by
      rw [List.size_toArray]
      exact (List.getElem?_eq_some_iff.mp hu).1
    have hfp : e ∉ [it, a] := fun z => by
      simp only [List.mem_cons, List.not_mem_nil, or_false] at z
      rcases z with z | z
      · exact hne z
      · exact hea z
    refine wpAny_pyNext_enum_itemD (Draws.tuple (A := X.A.in1) (I.ok.hd hc) it a hia its.toArray) he ⟨hit, p⟩ hlt hne hfp fun y h' tk hy ho hst hT hsz hk => ?_
    have ey : y = u := by
      have z : its.toArray[i]? = some y := hy
      rw [show its.toArray[i]? = its[i]? by simp, hu] at z
      exact (Option.some.inj z).symm
    subst ey
    refine ⟨_, rfl, wpAny_letOwnedTupleGo_enum (s := { s with heap := h', toks := tk + 1 }) ho fun h2 he' sb => ?_⟩
    have hT2 : h2.get? s.heap.objs.size = some { cls := .type "tuple", data := .seq #[.int i tk, y] } := (sb.2 _ (Nat.ne_of_gt hel)).trans hT
    have new : ObjOk X.prog X.w (upd H s.heap.objs.size (.tup [.int (i : Nat), x])) h2 s.heap.objs.size (.tup [.int (i : Nat), x]) :=
      ⟨(show 2 ≤ sizeLine by decide), [.int i tk, y], .cons ⟨_, rfl⟩ (.cons ru .nil), ⟨_, hT2, rfl, _, rfl⟩⟩
    have I1 : Inv X pins σ (upd H s.heap.objs.size (.tup [.int (i : Nat), x])) { s with heap := h2, toks := tk + 1 } := by
      refine I.turnedNew (ch := [e, it]) (fun b ob hb q => ?_) hf (Nat.le_refl _) new
      have n1 : b ≠ e := fun z => hb (by simp [z])
      have n2 : b ≠ it := fun z => hb (by simp [z])
      exact (sb.2 b n1).trans (hk b ob n1 n2 q)
    refine ⟨.ref s.heap.objs.size, _, I1, rfl, ⟨_, x, rfl, I.hok.fresh (Nat.le_refl _), rfl, fun ys hy => by rw [I.tuple_inj hy hq]; exact hx⟩, ⟨⟨y, ?_⟩, hst.1.at fun o q => (sb.2 it (Ne.symm hne)).trans q⟩, fun b hb => ?_⟩
    · rw [show ((i + 1 : Nat) : Int) = (i : Int) + 1 by omega]
      exact he'
    · have hl : b < s.heap.objs.size := by
        simp only [List.mem_cons, List.not_mem_nil, or_false] at hb
        rcases hb with rfl | rfl
        · exact hel
        · exact hil
      rw [upd_ne (Nat.ne_of_lt hl)]
      exact (hf b hb).1
  done := by
    intro X hP hw hK hc i pins s σ H E I hf st hg
    subst hP hw hK
    obtain ⟨⟨old, he⟩, hit⟩ := st
    obtain ⟨xs, hq, hx⟩ := hg
    obtain ⟨its, rv, p, hz⟩ := I.tuple hq
    obtain ⟨f0, f1, f2, f3, f4, f5⟩ := hf it (by simp)
    have hl := rv.length
    have D : Draws X.prog X.w X.A.in1 it [it, a] i (fun _ _ => True) (fun j h => j = i ∧ h.IsTupleIter it a i ∧ h.IsTuple a its.toArray) :=
      { live := fun _ _ st => let ⟨o, ho, _⟩ := st.2.1; ⟨o, ho⟩
        frame := fun _ _ _ st k => ⟨st.1, st.2.1.at fun o q => k it (by simp) o q, st.2.2.at fun o q => k a (by simp) o q⟩
        item := fun j s Q E hj st _ => absurd st.1 (Nat.ne_of_lt hj)
        done := fun s Q E st hE => wpAny_nextOf_tuple_end (I.ok.hd hc) st.2.1 st.2.2 (by simp; omega) hE }
    exact wpAny_pyNext_enum_endD D he ⟨rfl, hit, p⟩ fun h' eb => ⟨rfl, I.turned (t' := s.toks) (fun b o hb q => eb b o hb q) f0 f1 f3 f4 f5⟩
  self := fun A i s Q E st h => let ⟨⟨_, he⟩, _⟩ := st; wpAny_pyIter_enum he h
def iEnumT (K : PySem.W.Frag) (ta : TA) : TI := fun σ H R => ta σ H fun vs H1 => ∃ a xs, vs = [.ref a] ∧ SqT K H1 a xs ∧ R (ItE K a) H1
theorem pi_enumT {X : Cx} {e : Expr} {ta : TA} {p pos tpos : Pos} {elts : List Expr} {kk : Nat} (hg : Gl X "enumerate") (hm : X.mg "enumerate" = none) (ha : PA X [e] ta) (hs : starEach [e] X.env = [(false, eval e X.env)] := by rfl) :
    PI X (.Tuple elts kk tpos) (.Call (.Name "enumerate" p) [e] [] pos) (iEnumT X.K ta) := by
  refine ⟨fun pins s σ H R I h => ?_⟩
  refine Call_ (ld_blt I hg hm boot_enumerate (PyProof.Rows.callWith_type1 (thn (ha.run pos pins s σ H _ I h) fun us s1 ⟨vs, H1, I1, r1, q1⟩ => ?_) hs rfl))
  obtain ⟨a, xs, ex, hq, q⟩ := q1
  subst ex
  cases r1 with
  | cons r rr =>
    cases rr
    cases r
    obtain ⟨its, rv, p', hz⟩ := I1.tuple hq
    have hal : a < s1.heap.objs.size := by
      obtain ⟨o, e, _⟩ := p'
      exact Heap.lt_size e
    refine call_enumT p' fun h' he hit hk => wpAny_pyIter_enum he ?_
    refine ⟨s1.heap.objs.size + 1, [s1.heap.objs.size + 1, s1.heap.objs.size], _, _, H1, rfl, I1.kept (t' := s1.toks) hk, turn_enumT a (s1.heap.objs.size + 1) s1.heap.objs.size (fun z => absurd hal (by rw [← z]; exact Nat.not_lt.mpr (Nat.le_succ _))) (Nat.ne_of_lt hal) (Nat.succ_ne_self _), ⟨⟨.none, he⟩, hit⟩, fun b hb => ?_, q⟩
    have hle : s1.heap.objs.size ≤ b := by
      simp only [List.mem_cons, List.not_mem_nil, or_false] at hb
      rcases hb with rfl | rfl
      · exact Nat.le_succ _
      · exact Nat.le_refl _
    exact I1.fpOk hle (I1.hok.fresh hle)
/-! ### the mathematics: all fillings, in order -/
def cnt (n : Int) (ws : List Int) : Int := (ws.map fun x => n ^ x.toNat).sum
theorem cnt_take {n : Int} {ws : List Int} {i : Nat} {x : Int} (h : ws[i]? = some x) : cnt n (ws.take (i + 1)) = cnt n (ws.take i) + n ^ x.toNat := by
  unfold cnt
  rw [List.map_take, List.map_take]
  refine sum_take ?_
  rw [List.getElem?_map, h]
  rfl
theorem cnt_nonneg {n : Int} (h : 0 ≤ n) : ∀ ws : List Int, 0 ≤ cnt n ws
  | [] => Int.le_refl 0
  | x :: r => by
    have ih := cnt_nonneg h r
    have h1 : 0 ≤ n ^ x.toNat := Int.pow_nonneg h
    show 0 ≤ (n ^ x.toNat :: r.map fun x => n ^ x.toNat).sum
    rw [List.sum_cons]
    exact Int.add_nonneg h1 ih
theorem cnt_app (n : Int) (a b : List Int) : cnt n (a ++ b) = cnt n a + cnt n b := by
  unfold cnt
  rw [List.map_append, List.sum_append]
theorem cnt_take_le {n : Int} (h : 0 ≤ n) (ws : List Int) (i : Nat) : cnt n (ws.take i) ≤ cnt n ws := by
  have e : cnt n ws = cnt n (ws.take i) + cnt n (ws.drop i) := by rw [← cnt_app, List.take_append_drop]
  have := cnt_nonneg h (ws.drop i)
  omega
theorem cnt_term {n : Int} (h : 0 ≤ n) {ws : List Int} {i : Nat} {x : Int} (e : ws[i]? = some x) : n ^ x.toNat ≤ cnt n ws := by
  have h1 := cnt_take (n := n) e
  have h2 := cnt_take_le h ws (i + 1)
  have h3 := cnt_nonneg h (ws.take i)
  omega
/-- all rows of w things below n, rising -/
def rows (n : Nat) : Nat → List (List Int)
  | 0 => [[]]
  | w + 1 => (rows n w).flatMap fun r => (List.range n).map fun (t : Nat) => r ++ [(t : Int)]
theorem rows_len (n : Nat) : ∀ w, (rows n w).length = n ^ w
  | 0 => rfl
  | w + 1 => by
    have ih := rows_len n w
    rw [rows, List.length_flatMap]
    have e : (List.map (fun a => ((List.range n).map fun (t : Nat) => a ++ [(t : Int)]).length) (rows n w)) = List.replicate (rows n w).length n := by
      rw [List.eq_replicate_iff]
      refine ⟨by rw [List.length_map], fun b hb => ?_⟩
      obtain ⟨a, _, rfl⟩ := List.mem_map.mp hb
      rw [List.length_map, List.length_range]
    rw [e, List.sum_replicate_nat, ih, Nat.pow_succ]
theorem rows_mem {n : Nat} : ∀ {w : Nat} {r : List Int}, r ∈ rows n w → r.length = w ∧ ∀ x ∈ r, 0 ≤ x ∧ x < (n : Int)
  | 0, r, h => by
    rw [List.mem_singleton.mp h]
    exact ⟨rfl, fun x hx => by cases hx⟩
  | w + 1, r, h => by
    obtain ⟨a, ha, hr⟩ := List.mem_flatMap.mp h
    obtain ⟨t, ht, rfl⟩ := List.mem_map.mp hr
    obtain ⟨h1, h2⟩ := rows_mem ha
    refine ⟨by rw [List.length_append, h1]; rfl, fun x hx => ?_⟩
    rcases List.mem_append.mp hx with hx | hx
    · exact h2 x hx
    · rw [List.mem_singleton.mp hx]
      have := List.mem_range.mp ht
      omega
def LtL : List Int → List Int → Prop
  | a :: as, b :: bs => a < b ∨ (a = b ∧ LtL as bs)
  | _, _ => False
theorem ltl_app : ∀ {a b : List Int} (c d : List Int), LtL a b → LtL (a ++ c) (b ++ d)
  | x :: xs, y :: ys, c, d, h => by
    rcases h with h | ⟨h1, h2⟩
    · exact .inl h
    · exact .inr ⟨h1, ltl_app c d h2⟩
theorem ltl_last : ∀ (a : List Int) {x y : Int}, x < y → LtL (a ++ [x]) (a ++ [y])
  | [], x, y, h => .inl h
  | z :: zs, x, y, h => .inr ⟨rfl, ltl_last zs h⟩
theorem rows_sorted (n : Nat) : ∀ w, (rows n w).Pairwise LtL
  | 0 => List.pairwise_singleton _ _
  | w + 1 => by
    rw [rows, List.pairwise_flatMap]
    refine ⟨fun r _ => ?_, (rows_sorted n w).imp fun {a b} h x hx y hy => ?_⟩
    · rw [List.pairwise_map]
      exact List.pairwise_lt_range.imp fun {i j} h => ltl_last r (by omega)
    · obtain ⟨i, _, rfl⟩ := List.mem_map.mp hx
      obtain ⟨j, _, rfl⟩ := List.mem_map.mp hy
      exact ltl_app _ _ h
def one (n : Nat) (ws : List Int) (j : Nat) : List (Int × List Int) := (rows n ((ws.getD j 0).toNat)).map fun r => ((j : Int), r)
/-- the fillings of the first i trays -/
def fills (n : Nat) (ws : List Int) (i : Nat) : List (Int × List Int) := (List.range i).flatMap (one n ws)
theorem fills_succ (n : Nat) (ws : List Int) (i : Nat) : fills n ws (i + 1) = fills n ws i ++ one n ws i := by
  unfold fills
  rw [List.range_succ, List.flatMap_append]
  simp
theorem fills_len {n : Nat} {ws : List Int} : ∀ {i : Nat}, i ≤ ws.length → ((fills n ws i).length : Int) = cnt (n : Int) (ws.take i)
  | 0, _ => by
    rw [List.take_zero]
    rfl
  | i + 1, h => by
    have ih := fills_len (n := n) (ws := ws) (i := i) (by omega)
    have g : ws[i]? = some ws[i] := List.getElem?_eq_getElem (by omega)
    rw [fills_succ, List.length_append, cnt_take g]
    unfold one
    rw [List.length_map, rows_len, List.getD_eq_getElem?_getD, g]
    show (((fills n ws i).length + n ^ ws[i].toNat : Nat) : Int) = _
    rw [Int.natCast_add, ih, Int.natCast_pow]
def LtP (a b : Int × List Int) : Prop := a.1 < b.1 ∨ (a.1 = b.1 ∧ LtL a.2 b.2)
theorem fills_sorted (n : Nat) (ws : List Int) (i : Nat) : (fills n ws i).Pairwise LtP := by
  unfold fills
  rw [List.pairwise_flatMap]
  refine ⟨fun j _ => ?_, List.pairwise_lt_range.imp fun {a b} h x hx y hy => ?_⟩
  · unfold one
    rw [List.pairwise_map]
    exact (rows_sorted n _).imp fun h => .inr ⟨rfl, h⟩
  · obtain ⟨r, _, rfl⟩ := List.mem_map.mp hx
    obtain ⟨q, _, rfl⟩ := List.mem_map.mp hy
    exact .inl (show (a : Int) < (b : Int) by omega)
theorem fills_mem {n : Nat} {ws : List Int} {i : Nat} {p : Int × List Int} (hi : i ≤ ws.length) (hw : ∀ x ∈ ws, 0 ≤ x ∧ x ≤ 12) (h : p ∈ fills n ws i) : 0 ≤ p.1 ∧ p.1 < (ws.length : Int) ∧ ws[p.1.toNat]? = some ((p.2.length : Nat) : Int) ∧ ∀ x ∈ p.2, 0 ≤ x ∧ x < (n : Int) := by
  obtain ⟨j, hj, hp⟩ := List.mem_flatMap.mp h
  have hj' := List.mem_range.mp hj
  obtain ⟨r, hr, rfl⟩ := List.mem_map.mp hp
  obtain ⟨h1, h2⟩ := rows_mem hr
  have g : ws[j]? = some ws[j] := List.getElem?_eq_getElem (by omega)
  have hb := hw ws[j] (List.getElem_mem _)
  refine ⟨by omega, by show (j : Int) < _; omega, ?_, h2⟩
  show ws[((j : Int)).toNat]? = some ((r.length : Nat) : Int)
  rw [h1, List.getD_eq_getElem?_getD, g, Int.toNat_natCast]
  rw [g]
  congr 1
  show ws[j] = ((ws[j].toNat : Nat) : Int)
  omega
theorem pow_le_of {n : Nat} {i w : Nat} (h : i ≤ w) (hw : n ^ w ≤ 2000) : n ^ i ≤ 2000 := by
  cases n with
  | zero =>
    cases i with
    | zero => exact by decide
    | succ i => rw [Nat.zero_pow (by omega)]; omega
  | succ n => exact Nat.le_trans (Nat.pow_le_pow_right (by omega) h) hw
/-! ### < of pairs as the model has it -/
def dPair (p : Int × List Int) : PyData := .tuple [.int p.1, .tuple (p.2.map PyData.int)]
theorem alike_ints : ∀ a b : List Int, PySem.W.alikeAll (a.map PyData.int) (b.map PyData.int) = true
  | [], b => by simp [PySem.W.alikeAll]
  | x :: a, [] => by simp [PySem.W.alikeAll]
  | x :: a, y :: b => by
    have ih := alike_ints a b
    simp only [List.map_cons, PySem.W.alikeAll, PySem.W.alike, Bool.true_and]
    exact ih
theorem alike_pair (p q : Int × List Int) : PySem.W.alike (dPair p) (dPair q) = true := by
  have h := alike_ints p.2 q.2
  simp only [dPair, PySem.W.alike, PySem.W.alikeAll, h, Bool.and_true]
theorem eqv_ints_ne {a b : Int} (h : a ≠ b) : PyData.eqv (.int a) (.int b) = false := by
  simp only [PyData.eqv]
  exact beq_eq_false_iff_ne.mpr h
theorem eqv_int (a : Int) : PyData.eqv (.int a) (.int a) = true := by
  simp only [PyData.eqv]
  exact beq_self_eq_true a
theorem ltl_data : ∀ {a b : List Int}, LtL a b → PyProof.Rows.lexLt PyProof.Rows.itemOrd (PySem.W.keyToksAll (a.map PyData.int)) (PySem.W.keyToksAll (b.map PyData.int)) = true ∧ PyData.eqvAll (a.map PyData.int) (b.map PyData.int) = false
  | x :: xs, y :: ys, h => by
    rw [List.map_cons, List.map_cons]
    by_cases e : x = y
    · subst e
      rcases h with h | ⟨_, h⟩
      · exact absurd h (Int.lt_irrefl x)
      · obtain ⟨h1, h2⟩ := ltl_data h
        refine ⟨?_, ?_⟩
        · rw [PySem.W.dataLt_all_yes (by simp [PySem.W.alike]) (eqv_int x)]
          exact h1
        · rw [PySem.W.eqv_all_cons, h2, Bool.and_false]
    · have hlt : x < y := by
        rcases h with h | ⟨h, _⟩
        · exact h
        · exact absurd h e
      refine ⟨?_, ?_⟩
      · rw [PySem.W.dataLt_all_no (by simp [PySem.W.alike]) (eqv_ints_ne e), PySem.W.dataLt_int]
        exact decide_eq_true hlt
      · rw [PySem.W.eqv_all_cons, eqv_ints_ne e, Bool.false_and]
theorem ltp_data {p q : Int × List Int} (h : LtP p q) : PySem.W.dataLt (dPair p) (dPair q) = true := by
  unfold dPair
  rw [PySem.W.dataLt_tuple]
  by_cases e : p.1 = q.1
  · rcases h with h | ⟨_, h⟩
    · omega
    · obtain ⟨h1, h2⟩ := ltl_data h
      rw [e, PySem.W.dataLt_all_yes (by simp [PySem.W.alike]) (eqv_int q.1)]
      rw [PySem.W.dataLt_all_no (by simp only [PySem.W.alike]; exact alike_ints _ _) (by simp only [PyData.eqv]; exact h2), PySem.W.dataLt_tuple]
      exact h1
  · rw [PySem.W.dataLt_all_no (by simp [PySem.W.alike]) (eqv_ints_ne e), PySem.W.dataLt_int]
    rcases h with h | ⟨h, _⟩
    · exact decide_eq_true h
    · exact absurd h e
/-- the inner walk over a range of a comprehension with two fors -/
theorem in_range {n : Nat} {g : TG} {tt : TT} {te : TE} {vs : List Nat} {σ : L2.St} {H4 : Hp} {D : Addr} {Nx : Hp → Prop} (Pv : Nat → Hp → Prop) (h0 : Pv 0 H4)
    (hs : ∀ j H, j < n → Pv j H → g (.int (0 + j)) (wipe σ vs) H fun σ3 H5 => wipe σ3 vs = wipe σ vs ∧ tt σ3 H5 fun b H6 => if b = true then te σ3 H6 fun y H7 => ∃ acc, H7 D = some (.lst acc) ∧ acc.length < sizeLine ∧ Pv (j + 1) (upd H7 D (.lst (acc ++ [y]))) else Pv (j + 1) H6)
    (hd : ∀ H, Pv n H → Nx H) :
    ∃ W1 : Nat → Nat → Hp → Prop, (∃ m, W1 0 m H4) ∧ ∀ j k H, W1 j k H → ((Itr 0 n).stop j H ∧ Nx H) ∨ ((Itr 0 n).go j H ∧ ∃ Nx1 : Hp → Prop, (∀ H', Nx1 H' → ∃ k', k' < k ∧ W1 (j + 1) k' H') ∧ ∀ x H', (Itr 0 n).yld j H x H' → g x (wipe σ vs) H' fun σ3 H5 => wipe σ3 vs = wipe σ vs ∧ tt σ3 H5 fun b H6 =>
      if b = true then te σ3 H6 fun y H7 => ∃ acc, H7 D = some (.lst acc) ∧ acc.length < sizeLine ∧ Nx1 (upd H7 D (.lst (acc ++ [y]))) else Nx1 H6) := by
  refine ⟨fun j m H => m = n - j ∧ j ≤ n ∧ Pv j H, ⟨n, by omega, Nat.zero_le _, h0⟩, fun j k H hW => ?_⟩
  obtain ⟨rfl, hj, p⟩ := hW
  by_cases hlt : j < n
  · refine .inr ⟨hlt, Pv (j + 1), fun H' p' => ⟨n - (j + 1), by omega, rfl, hlt, p'⟩, fun x H' y => ?_⟩
    obtain ⟨e, y⟩ := y
    subst e y
    exact hs j _ hlt p
  · obtain rfl : j = n := by omega
    exact .inl ⟨Nat.le_refl _, hd H p⟩
/-- the outer walk over a list -/
theorem out_list {K : PySem.W.Frag} {a : Addr} {xs : List V} {D : Addr} {H1 : Hp} {Qd : Hp → Prop} {body : (Hp → Prop) → V → Hp → Prop} (Pv : Nat → Hp → Prop) (h0 : Pv 0 (upd H1 D (.lst []))) (hl : ∀ i H, i ≤ xs.length → Pv i H → SqL K H a xs)
    (hs : ∀ i x H, xs[i]? = some x → Pv i H → body (Pv (i + 1)) x H) (hd : ∀ H, Pv xs.length H → Qd H) :
    ∃ W : Nat → Nat → Hp → Prop, (∃ m, W 0 m (upd H1 D (.lst []))) ∧ ∀ i m H, W i m H → ((Itl K a).stop i H ∧ Qd H) ∨ ((Itl K a).go i H ∧ ∃ Nx : Hp → Prop, (∀ H', Nx H' → ∃ m', m' < m ∧ W (i + 1) m' H') ∧ ∀ x H', (Itl K a).yld i H x H' → body Nx x H') := by
  refine ⟨fun i m H => m = xs.length - i ∧ i ≤ xs.length ∧ Pv i H, ⟨xs.length, by omega, Nat.zero_le _, h0⟩, fun i m H hW => ?_⟩
  obtain ⟨rfl, hi, p⟩ := hW
  have q := hl i H hi p
  by_cases hlt : i < xs.length
  · refine .inr ⟨⟨xs, xs[i], q, by simp [hlt]⟩, Pv (i + 1), fun H' p' => ⟨xs.length - (i + 1), by omega, rfl, hlt, p'⟩, fun x H' y => ?_⟩
    obtain ⟨e, y⟩ := y
    subst e
    exact hs i x _ (y xs q) p
  · obtain rfl : i = xs.length := by omega
    exact .inl ⟨⟨xs, q, Nat.le_refl _⟩, hd H p⟩
theorem small2000 {n : Nat} (h : n ≤ 3000) : n < sizeLine := Nat.lt_of_le_of_lt h (by decide)
/-- what H says of tuples H' says too -/
def KeepT (H H' : Hp) : Prop := ∀ a ys, H a = some (.tup ys) → H' a = some (.tup ys)
theorem KeepT.of_same {H H' : Hp} (h : Same H H') : KeepT H H' := fun a ys e => h a _ e
theorem keep_lst {H : Hp} {D : Addr} {acc acc' : List V} (h : H D = some (.lst acc)) : KeepT H (upd H D (.lst acc')) := fun a ys e => by
  rw [upd_ne (ne_of e h (fun z => by cases z))]
  exact e
/-- xs are tuples of the rows rs -/
def Tups (H : Hp) (xs : List V) (rs : List (List Int)) : Prop := xs.length = rs.length ∧ ∀ (i : Nat) (x : V) (r : List Int), xs[i]? = some x → rs[i]? = some r → ∃ a, x = .ref a ∧ H a = some (.tup (r.map V.int))
theorem Tups.keep {H H' : Hp} {xs : List V} {rs : List (List Int)} (h : Tups H xs rs) (k : KeepT H H') : Tups H' xs rs := ⟨h.1, fun i x r h1 h2 => by
  obtain ⟨a, e, q⟩ := h.2 i x r h1 h2
  exact ⟨a, e, k _ _ q⟩⟩
theorem Tups.push {H : Hp} {xs : List V} {rs : List (List Int)} {a : Addr} {r : List Int} (h : Tups H xs rs) (e : H a = some (.tup (r.map V.int))) : Tups H (xs ++ [.ref a]) (rs ++ [r]) := by
  refine ⟨by rw [List.length_append, List.length_append, h.1]; rfl, fun i x q h1 h2 => ?_⟩
  by_cases hi : i < xs.length
  · rw [List.getElem?_append_left hi] at h1
    rw [List.getElem?_append_left (by rw [← h.1]; exact hi)] at h2
    exact h.2 i x q h1 h2
  · have hlt : i < (xs ++ [V.ref a]).length := (List.getElem?_eq_some_iff.mp h1).1
    rw [List.length_append] at hlt
    have ei : i = xs.length := by
      have : ([V.ref a] : List V).length = 1 := rfl
      omega
    subst ei
    rw [List.getElem?_append_right (Nat.le_refl _), Nat.sub_self] at h1
    rw [h.1, List.getElem?_append_right (Nat.le_refl _), Nat.sub_self] at h2
    cases h1
    cases h2
    exact ⟨a, rfl, e⟩
theorem for_enumT {K : PySem.W.Frag} {a : Addr} {xs : List V} {g : TG} {tb : TS} {D : Ends} {σ : L2.St} {H : Hp} (Pv : Nat → L2.St → Hp → Prop) (h0 : Pv 0 σ H) (hl : ∀ i σ H, i ≤ xs.length → Pv i σ H → SqT K H a xs)
    (hs : ∀ (i : Nat) x σ H T, xs[i]? = some x → Pv i σ H → H T = none → g (.ref T) σ (upd H T (.tup [.int (i : Int), x])) fun σ2 H2 => tb { D with nx := Pv (i + 1), ct := Pv (i + 1), bk := D.nx } σ2 H2) (hd : ∀ σ H, Pv xs.length σ H → D.nx σ H) :
    ∃ W : Nat → Nat → L2.St → Hp → Prop, (∃ m, W 0 m σ H) ∧ ∀ i m σ H, W i m σ H →
      ((ItE K a).stop i H ∧ D.nx σ H) ∨ ((ItE K a).go i H ∧ ∃ N : L2.St → Hp → Prop, (∀ σ' H', N σ' H' → ∃ m', m' < m ∧ W (i + 1) m' σ' H') ∧ ∀ x H', (ItE K a).yld i H x H' → g x σ H' fun σ2 H2 => tb { D with nx := N, ct := N, bk := D.nx } σ2 H2) := by
  refine ⟨fun i m σ H => m = xs.length - i ∧ i ≤ xs.length ∧ Pv i σ H, ⟨xs.length, by omega, Nat.zero_le _, h0⟩, fun i m σ H hW => ?_⟩
  obtain ⟨rfl, hi, p⟩ := hW
  have q := hl i σ H hi p
  by_cases hlt : i < xs.length
  · refine .inr ⟨⟨xs, xs[i], q, by simp [hlt]⟩, Pv (i + 1), fun σ' H' p' => ⟨xs.length - (i + 1), by omega, rfl, hlt, p'⟩, fun x H' y => ?_⟩
    obtain ⟨T, z, rfl, hT, rfl, hz⟩ := y
    exact hs i z σ H T (hz xs q) p hT
  · obtain rfl : i = xs.length := by omega
    exact .inl ⟨⟨xs, q, Nat.le_refl _⟩, hd σ H p⟩
/-- xs are pairs of a tray's number and a tuple of things -/
def Pairs (H : Hp) (xs : List V) (fs : List (Int × List Int)) : Prop := xs.length = fs.length ∧ ∀ (i : Nat) (x : V) (p : Int × List Int), xs[i]? = some x → fs[i]? = some p → ∃ a b, x = .ref a ∧ H a = some (.tup [.int p.1, .ref b]) ∧ H b = some (.tup (p.2.map V.int))
theorem Pairs.keep {H H' : Hp} {xs : List V} {fs : List (Int × List Int)} (h : Pairs H xs fs) (k : KeepT H H') : Pairs H' xs fs := ⟨h.1, fun i x r h1 h2 => by
  obtain ⟨a, b, e, q1, q2⟩ := h.2 i x r h1 h2
  exact ⟨a, b, e, k _ _ q1, k _ _ q2⟩⟩
theorem Pairs.push {H : Hp} {xs : List V} {fs : List (Int × List Int)} {a b : Addr} {p : Int × List Int} (h : Pairs H xs fs) (e : H a = some (.tup [.int p.1, .ref b])) (e2 : H b = some (.tup (p.2.map V.int))) : Pairs H (xs ++ [.ref a]) (fs ++ [p]) := by
  refine ⟨by rw [List.length_append, List.length_append, h.1]; rfl, fun i x q h1 h2 => ?_⟩
  by_cases hi : i < xs.length
  · rw [List.getElem?_append_left hi] at h1
    rw [List.getElem?_append_left (by rw [← h.1]; exact hi)] at h2
    exact h.2 i x q h1 h2
  · have hlt : i < (xs ++ [V.ref a]).length := (List.getElem?_eq_some_iff.mp h1).1
    rw [List.length_append] at hlt
    have ei : i = xs.length := by
      have : ([V.ref a] : List V).length = 1 := rfl
      omega
    subst ei
    rw [List.getElem?_append_right (Nat.le_refl _), Nat.sub_self] at h1
    rw [h.1, List.getElem?_append_right (Nat.le_refl _), Nat.sub_self] at h2
    cases h1
    cases h2
    exact ⟨a, b, rfl, e, e2⟩
theorem Kp.get {p l b : Addr} {o : HO} {H H' : Hp} (k : Kp p l H H') (n : b ≠ p ∧ b ≠ l) (e : H b = some o) : H' b = some o := k b o n.1 n.2 e
/-- what the written part says of an own error C without more -/
structure ErrTxt (K : PySem.W.Frag) (mg : Str → Option Value) (x : Str) (C : Addr) : Prop where
  g : mg x = some (.ref C)
  k : PySem.W.keepIn K (.ref C) = true
  b : PySem.W.subIn K (.ref C) (.type "BaseException") = some true
  t : PySem.W.typeIn K (.ref C) = some (.type "type")

theorem lg59 : ((10 : Int) ^ (59 : Int).toNat).natAbs.log2 < 9000 := Nat.lt_of_lt_of_le (PySem.Flt.log2_lt_of (by decide : 0 < 200) (by decide +kernel)) (by decide)
theorem p59 : (0 : Int) < 10 ^ (59 : Int).toNat := by decide +kernel
theorem at_in {xs : List V} {r : Int} {n : Nat} (hn : xs.length = n) (h0 : 0 ≤ r) (h1 : r < (n : Int)) : ∃ v, v ∈ xs ∧ atI xs r = some v := by
  have h2 : r.toNat < xs.length := by omega
  exact ⟨xs[r.toNat], List.getElem_mem h2, at_of (j := r.toNat) (by omega) (List.getElem?_eq_getElem h2)⟩
theorem atW {ws : List Int} {i n : Int} (i0 : 0 ≤ i) (g : ws[i.toNat]? = some n) : atI (ws.map V.int) i = some (.int n) := at_of (j := i.toNat) (by omega) (by rw [List.getElem?_map, g]; rfl)
theorem at0 {x y : V} : atI [x, y] 0 = some x := atI_nat (j := 0) rfl
theorem at1 {x y : V} : atI [x, y] 1 = some y := atI_nat (j := 1) rfl
theorem Kp.keepT {p l : Addr} {H H' : Hp} (S : Sc p l H) (k : Kp p l H H') : KeepT H H' := by
  obtain ⟨n, ns, a, b, e1, e2, _⟩ := S
  exact fun c ys e => k c _ (ne_of e e1 (fun z => by cases z)) (ne_of e e2 (fun z => by cases z)) e
theorem KeepT.trans {H H1 H2 : Hp} (a : KeepT H H1) (b : KeepT H1 H2) : KeepT H H2 := fun c ys e => b c ys (a c ys e)
theorem tab_ne {H : Hp} {p l P : Addr} (S : Sc p l H) (G : GxR.TabG H P) : P ≠ p ∧ P ≠ l := by
  obtain ⟨ps, h, _⟩ := G
  obtain ⟨n, ns, a, b, e1, e2, _⟩ := S
  exact ⟨ne_of h e1 (fun z => by cases z), ne_of h e2 (fun z => by cases z)⟩
theorem TabG_kp {H H' : Hp} {p l P : Addr} (S : Sc p l H) (G : GxR.TabG H P) (k : Kp p l H H') : GxR.TabG H' P := by
  have n := tab_ne S G
  obtain ⟨ps, h, t⟩ := G
  exact ⟨ps, k.get n h, t⟩
theorem tab_keep {H H' : Hp} {P b : Addr} {o : HO} (G : GxR.TabG H P) (k : GxR.Tabbed P H H') (e : H b = some o) (n : ∀ z, o ≠ .tbl z) : H' b = some o := by
  rw [k.2 b fun z => ?_]
  · exact e
  · obtain ⟨ps, hP, _⟩ := G
    rw [z, hP] at e
    exact n ps (Option.some.inj e).symm
theorem Sc_tab {H H' : Hp} {p l P : Addr} (S : Sc p l H) (G : GxR.TabG H P) (k : GxR.Tabbed P H H') : Sc p l H' := by
  obtain ⟨n', ns, a, b, e1, e2, r⟩ := S
  exact ⟨n', ns, a, b, tab_keep G k e1 (fun z q => by cases q), tab_keep G k e2 (fun z q => by cases q), r⟩
/-- the source's records where another list is changed -/
theorem Sc.lst {p l D : Addr} {xs : List V} {H : Hp} (S : Sc p l H) (n : D ≠ p ∧ D ≠ l) : Sc p l (L2.upd H D (.lst xs)) := by
  obtain ⟨n', ns, a, b, e1, e2, r⟩ := S
  refine ⟨n', ns, a, b, ?_, ?_, r⟩
  · rw [upd_ne n.1.symm]
    exact e1
  · rw [upd_ne n.2.symm]
    exact e2
/-- a list that is new against H is changed -/
theorem Kp.lst {p l D : Addr} {xs : List V} {H H' : Hp} (k : Kp p l H H') (f : H D = none) : Kp p l H (L2.upd H' D (.lst xs)) := fun b o h1 h2 e => by
  rw [upd_ne (ne_of_none e f)]
  exact k b o h1 h2 e
/-! ### ways: a tuple of pairs of a number and a tuple of numbers -/
def Way (H : Hp) (a : Addr) (wy : List (Int × List Int)) : Prop := ∃ xs, H a = some (.tup xs) ∧ Pairs H xs wy
theorem Way.keep {H H' : Hp} {a : Addr} {wy : List (Int × List Int)} (h : Way H a wy) (k : KeepT H H') : Way H' a wy := by
  obtain ⟨xs, e, p⟩ := h
  exact ⟨xs, k _ _ e, p.keep k⟩
/-- wy is a way from ws to us -/
def WayOk (ws us : List Int) (wy : List (Int × List Int)) : Prop := wy.length = ws.length ∧ ∀ (i : Nat) (p : Int × List Int) (x : Int), wy[i]? = some p → ws[i]? = some x → 0 ≤ p.1 ∧ p.1 < (us.length : Int) ∧ us[p.1.toNat]? = some ((p.2.length : Nat) : Int) ∧ ∀ y ∈ p.2, 0 ≤ y ∧ y < x
/-! ### things at any depth, none of their lists the source's -/
mutual
inductive Dq (N : Addr → Prop) (H : Hp) : V → PyData → Prop
  | non : Dq N H .non .none
  | bl (b : Bool) : Dq N H (.bl b) (.bool b)
  | int (i : Int) : Dq N H (.int i) (.int i)
  | str (x : Str) : Dq N H (.str x) (.str x)
  | lst {a : Addr} {xs : List V} {ds : List PyData} : H a = some (.lst xs) → ¬ N a → DqAll N H xs ds → Dq N H (.ref a) (.list ds)
  | tup {a : Addr} {xs : List V} {ds : List PyData} : H a = some (.tup xs) → DqAll N H xs ds → Dq N H (.ref a) (.tuple ds)
inductive DqAll (N : Addr → Prop) (H : Hp) : List V → List PyData → Prop
  | nil : DqAll N H [] []
  | cons {v : V} {vs : List V} {d : PyData} {ds : List PyData} : Dq N H v d → DqAll N H vs ds → DqAll N H (v :: vs) (d :: ds)
end
/-- what is no record of the source's stays -/
def KeepD (N : Addr → Prop) (H H' : Hp) : Prop := (∀ a ys, H a = some (.tup ys) → H' a = some (.tup ys)) ∧ ∀ a ys, ¬ N a → H a = some (.lst ys) → H' a = some (.lst ys)
mutual
theorem Dq.keep {N : Addr → Prop} {H H' : Hp} (k : KeepD N H H') : ∀ {v : V} {d : PyData}, Dq N H v d → Dq N H' v d
  | _, _, .non => .non
  | _, _, .bl b => .bl b
  | _, _, .int i => .int i
  | _, _, .str x => .str x
  | _, _, .lst e n h => .lst (k.2 _ _ n e) n (DqAll.keep k h)
  | _, _, .tup e h => .tup (k.1 _ _ e) (DqAll.keep k h)
theorem DqAll.keep {N : Addr → Prop} {H H' : Hp} (k : KeepD N H H') : ∀ {vs : List V} {ds : List PyData}, DqAll N H vs ds → DqAll N H' vs ds
  | _, _, .nil => .nil
  | _, _, .cons a b => .cons (Dq.keep k a) (DqAll.keep k b)
end
mutual
theorem Dq.dp {N : Addr → Prop} {H : Hp} {K : PySem.W.Frag} : ∀ {v : V} {d : PyData}, Dq N H v d → Dp K H v d
  | _, _, .non => .non
  | _, _, .bl b => .bl b
  | _, _, .int i => .int i
  | _, _, .str x => .str x
  | _, _, .lst e _ h => .lst (SqL.of e) (DqAll.dp h)
  | _, _, .tup e h => .tup (SqT.of e) (DqAll.dp h)
theorem DqAll.dp {N : Addr → Prop} {H : Hp} {K : PySem.W.Frag} : ∀ {vs : List V} {ds : List PyData}, DqAll N H vs ds → DpAll K H vs ds
  | _, _, .nil => .nil
  | _, _, .cons a b => .cons (Dq.dp a) (DqAll.dp b)
end
theorem DqAll.len {N : Addr → Prop} {H : Hp} : ∀ {vs : List V} {ds : List PyData}, DqAll N H vs ds → vs.length = ds.length
  | _, _, .nil => rfl
  | _, _, .cons _ b => by rw [List.length_cons, List.length_cons, b.len]
theorem DqAll.get {N : Addr → Prop} {H : Hp} : ∀ {vs : List V} {ds : List PyData} {i : Nat} {v : V}, DqAll N H vs ds → vs[i]? = some v → ∃ d, ds[i]? = some d ∧ Dq N H v d
  | _, _, i, _, .nil, h => by simp at h
  | _, _, 0, _, .cons a b, h => by
    cases h
    exact ⟨_, rfl, a⟩
  | _, _, i + 1, _, .cons a b, h => b.get (i := i) h
theorem DqAll.ints {N : Addr → Prop} {H : Hp} : ∀ ns : List Int, DqAll N H (ns.map V.int) (ns.map PyData.int)
  | [] => .nil
  | n :: r => .cons (.int n) (DqAll.ints r)
/-- some datum -/
def Any (N : Addr → Prop) (H : Hp) (v : V) : Prop := ∃ d, Dq N H v d
theorem any_all {N : Addr → Prop} {H : Hp} : ∀ {vs : List V}, (∀ v ∈ vs, Any N H v) → ∃ ds, DqAll N H vs ds
  | [], _ => ⟨[], .nil⟩
  | v :: vs, h => by
    obtain ⟨d, hd⟩ := h v List.mem_cons_self
    obtain ⟨ds, hs⟩ := any_all (vs := vs) fun x hx => h x (List.mem_cons_of_mem _ hx)
    exact ⟨d :: ds, .cons hd hs⟩
theorem all_any {N : Addr → Prop} {H : Hp} : ∀ {vs : List V} {ds : List PyData}, DqAll N H vs ds → ∀ v ∈ vs, Any N H v
  | _, _, .nil, v, h => by cases h
  | _, _, .cons a b, v, h => by
    rcases List.mem_cons.mp h with rfl | h
    · exact ⟨_, a⟩
    · exact all_any b v h
theorem Any.keep {N : Addr → Prop} {H H' : Hp} {v : V} (h : Any N H v) (k : KeepD N H H') : Any N H' v := let ⟨d, hd⟩ := h; ⟨d, hd.keep k⟩
theorem any_non {N : Addr → Prop} {H : Hp} : Any N H .non := ⟨_, .non⟩
theorem any_bl {N : Addr → Prop} {H : Hp} {b : Bool} : Any N H (.bl b) := ⟨_, .bl b⟩
theorem any_int {N : Addr → Prop} {H : Hp} {i : Int} : Any N H (.int i) := ⟨_, .int i⟩
theorem any_str {N : Addr → Prop} {H : Hp} {x : Str} : Any N H (.str x) := ⟨_, .str x⟩
theorem any_tup {N : Addr → Prop} {a : Addr} {H : Hp} {xs : List V} (e : H a = some (.tup xs)) (h : ∀ x ∈ xs, Any N H x) : Any N H (.ref a) := let ⟨_, hs⟩ := any_all h; ⟨_, .tup e hs⟩
theorem any_lst {N : Addr → Prop} {a : Addr} {H : Hp} {xs : List V} (e : H a = some (.lst xs)) (n : ¬ N a) (h : ∀ x ∈ xs, Any N H x) : Any N H (.ref a) := let ⟨_, hs⟩ := any_all h; ⟨_, .lst e n hs⟩
/-! ### their types -/
def tyD : PyData → String
  | .none => "NoneType"
  | .bool _ => "bool"
  | .int _ => "int"
  | .str _ => "str"
  | .list _ => "list"
  | .tuple _ => "tuple"
  | .dict _ => "dict"
def wholeD : PyData → Bool
  | .int _ => true
  | _ => false
def tupD : PyData → Bool
  | .tuple _ => true
  | _ => false
def intD : PyData → Bool
  | .int _ => true
  | .bool _ => true
  | _ => false
def boolD : PyData → Bool
  | .bool _ => true
  | _ => false
theorem dq_ty {K : PySem.W.Frag} {N : Addr → Prop} {H : Hp} {v : V} {d : PyData} (h : Dq N H v d) : TyX K H v (.type (tyD d)) := by
  cases h with
  | non => exact .base .non
  | bl b => exact .base (.bl b)
  | int i => exact .base (.int i)
  | str x => exact .base (.str x)
  | lst e _ _ => exact .base (.lst e)
  | tup e _ => exact .base (.tup e)
theorem kit_tupD {d : PyData} (h : ∀ kvs, d ≠ .dict kvs) : kitB (tyD d) "tuple" = some (tupD d) := by
  cases d <;> first | decide +kernel | exact absurd rfl (h _) | rfl
theorem kit_intD {d : PyData} (h : ∀ kvs, d ≠ .dict kvs) : kitB (tyD d) "int" = some (intD d) := by
  cases d <;> first | decide +kernel | exact absurd rfl (h _) | rfl
theorem kit_boolD {d : PyData} (h : ∀ kvs, d ≠ .dict kvs) : kitB (tyD d) "bool" = some (boolD d) := by
  cases d <;> first | decide +kernel | exact absurd rfl (h _) | rfl
theorem dq_nodict {N : Addr → Prop} {H : Hp} {v : V} {d : PyData} (h : Dq N H v d) : ∀ kvs, d ≠ .dict kvs := by
  cases h <;> intro kvs e <;> cases e
theorem whole_eq (d : PyData) : (intD d && !boolD d) = wholeD d := by cases d <;> rfl
theorem wholeD_int {N : Addr → Prop} {H : Hp} {v : V} {d : PyData} (h : Dq N H v d) (e : wholeD d = true) : ∃ i, v = .int i ∧ d = .int i := by
  cases h <;> first | exact ⟨_, rfl, rfl⟩ | cases e
theorem tupD_tup {N : Addr → Prop} {H : Hp} {v : V} {d : PyData} (h : Dq N H v d) (e : tupD d = true) : ∃ a xs ds, v = .ref a ∧ d = .tuple ds ∧ H a = some (.tup xs) ∧ DqAll N H xs ds := by
  cases h with
  | tup e' hs => exact ⟨_, _, _, rfl, rfl, e', hs⟩
  | non => cases e
  | bl b => cases e
  | int i => cases e
  | str x => cases e
  | lst _ _ _ => cases e
/-! ### what the source's records leave -/
theorem Kp.keepD {p l : Addr} {N : Addr → Prop} {H H' : Hp} (S : Sc p l H) (k : Kp p l H H') (hp : N p) (hl : N l) : KeepD N H H' := by
  refine ⟨k.keepT S, fun c ys h e => k c _ (fun z => h (by rw [z]; exact hp)) (fun z => h (by rw [z]; exact hl)) e⟩
theorem Same.keepD {N : Addr → Prop} {H H' : Hp} (k : Same H H') : KeepD N H H' := ⟨fun _ _ e => k _ _ e, fun _ _ _ e => k _ _ e⟩
theorem KeepD.trans {N : Addr → Prop} {H H1 H2 : Hp} (a : KeepD N H H1) (b : KeepD N H1 H2) : KeepD N H H2 := ⟨fun c ys e => b.1 c ys (a.1 c ys e), fun c ys h e => b.2 c ys h (a.2 c ys h e)⟩
/-- a list among those that are left out is changed -/
theorem keepD_lst {N : Addr → Prop} {H : Hp} {D : Addr} {xs ys : List V} (e : H D = some (.lst xs)) (n : N D) : KeepD N H (upd H D (.lst ys)) := ⟨keep_lst e, fun a zs h q => by
  rw [upd_ne (fun z => h (by rw [z]; exact n))]
  exact q⟩
mutual
theorem Dq.weak {N N' : Addr → Prop} {H : Hp} (k : ∀ a, N' a → N a) : ∀ {v : V} {d : PyData}, Dq N H v d → Dq N' H v d
  | _, _, .non => .non
  | _, _, .bl b => .bl b
  | _, _, .int i => .int i
  | _, _, .str x => .str x
  | _, _, .lst e n h => .lst e (fun z => n (k _ z)) (DqAll.weak k h)
  | _, _, .tup e h => .tup e (DqAll.weak k h)
theorem DqAll.weak {N N' : Addr → Prop} {H : Hp} (k : ∀ a, N' a → N a) : ∀ {vs : List V} {ds : List PyData}, DqAll N H vs ds → DqAll N' H vs ds
  | _, _, .nil => .nil
  | _, _, .cons a b => .cons (Dq.weak k a) (DqAll.weak k b)
end
theorem Any.weak {N N' : Addr → Prop} {H : Hp} {v : V} (h : Any N H v) (k : ∀ a, N' a → N a) : Any N' H v := let ⟨d, hd⟩ := h; ⟨d, hd.weak k⟩
/-- all that are left out stand already -/
def Told (N : Addr → Prop) (H : Hp) : Prop := ∀ a, N a → H a ≠ none
theorem Told.new {N : Addr → Prop} {H : Hp} {a : Addr} (t : Told N H) (h : H a = none) : ¬ N a := fun z => t a z h
theorem Told.kp {p l : Addr} {N : Addr → Prop} {H H' : Hp} (t : Told N H) (S : Sc p l H') (k : Kp p l H H') : Told N H' := fun a n h => t a n (k.free S h)
theorem Told.upd {N : Addr → Prop} {H : Hp} {a : Addr} {o : HO} (t : Told N H) : Told N (L2.upd H a o) := fun b n h => by
  by_cases e : b = a
  · rw [e, upd_same] at h
    cases h
  · rw [upd_ne e] at h
    exact t b n h
/-! ### what is a way, of any datum -/
def wellD (x : Int) : PyData → Bool
  | .int i => decide (0 ≤ i) && decide (i < x)
  | _ => false
def pairD (us : List Int) (x : Int) : PyData → Bool
  | .tuple [.int t, .tuple ds] => decide (0 ≤ t) && decide (t < (us.length : Int)) && decide (us[t.toNat]? = some ((ds.length : Nat) : Int)) && ds.all (wellD x)
  | _ => false
def pairsD (us : List Int) : List Int → List PyData → Bool
  | x :: ws, d :: ds => pairD us x d && pairsD us ws ds
  | [], [] => true
  | _, _ => false
def isWayD (ws us : List Int) : PyData → Bool
  | .tuple ds => pairsD us ws ds
  | _ => false
theorem pairs_len {us : List Int} : ∀ {ws : List Int} {ds : List PyData}, ds.length ≠ ws.length → pairsD us ws ds = false
  | [], [], h => absurd rfl h
  | [], d :: ds, _ => rfl
  | x :: ws, [], _ => rfl
  | x :: ws, d :: ds, h => by
    rw [pairsD, pairs_len (ws := ws) (ds := ds) (fun e => h (by rw [List.length_cons, List.length_cons, e])), Bool.and_false]
theorem pairs_no {us : List Int} : ∀ {ws : List Int} {ds : List PyData} {i : Nat} {x : Int} {d : PyData}, ws[i]? = some x → ds[i]? = some d → pairD us x d = false → pairsD us ws ds = false
  | [], _, i, _, _, h, _, _ => by simp at h
  | _ :: _, [], i, _, _, _, h, _ => by simp at h
  | x :: ws, d :: ds, 0, _, _, h1, h2, h3 => by
    cases h1
    cases h2
    rw [pairsD, h3, Bool.false_and]
  | x :: ws, d :: ds, i + 1, _, _, h1, h2, h3 => by
    rw [pairsD, pairs_no (ws := ws) (ds := ds) (i := i) h1 h2 h3, Bool.and_false]
theorem pairs_yes {us : List Int} : ∀ {ws : List Int} {ds : List PyData}, ds.length = ws.length → (∀ (i : Nat) (x : Int) (d : PyData), ws[i]? = some x → ds[i]? = some d → pairD us x d = true) → pairsD us ws ds = true
  | [], [], _, _ => rfl
  | [], d :: ds, h, _ => by cases h
  | x :: ws, [], h, _ => by cases h
  | x :: ws, d :: ds, h, hh => by
    rw [pairsD, hh 0 x d rfl rfl, Bool.true_and]
    exact pairs_yes (Nat.succ.inj h) fun i x d h1 h2 => hh (i + 1) x d h1 h2
theorem pair_tup {us : List Int} {x : Int} {d : PyData} (h : tupD d = false) : pairD us x d = false := by
  cases d <;> first | rfl | cases h
theorem pair_len {us : List Int} {x : Int} {ds : List PyData} (h : ds.length ≠ 2) : pairD us x (.tuple ds) = false := by
  match ds, h with
  | [], _ => rfl
  | [a], _ => cases a <;> rfl
  | [_, _], h => exact absurd rfl h
  | a :: b :: c :: r, _ => cases a <;> first | rfl | (cases b <;> rfl)
theorem pair_whole {us : List Int} {x : Int} {d e : PyData} (h : wholeD d = false) : pairD us x (.tuple [d, e]) = false := by
  cases d <;> first | rfl | cases h
theorem pair_snd {us : List Int} {x : Int} {d e : PyData} (h : tupD e = false) : pairD us x (.tuple [d, e]) = false := by
  cases d <;> first | rfl | (cases e <;> first | rfl | cases h)
/-- a way as a datum -/
def dWay (wy : List (Int × List Int)) : PyData := .tuple (wy.map dPair)
theorem wells_ints {x : Int} {ns : List Int} (h : ∀ y ∈ ns, 0 ≤ y ∧ y < x) : (ns.map PyData.int).all (wellD x) = true := by
  rw [List.all_eq_true]
  intro d hd
  obtain ⟨y, hy, rfl⟩ := List.mem_map.mp hd
  show (decide (0 ≤ y) && decide (y < x)) = true
  rw [decide_eq_true (h y hy).1, decide_eq_true (h y hy).2]
  rfl
theorem isWayD_ok {ws us : List Int} {wy : List (Int × List Int)} (h : WayOk ws us wy) : isWayD ws us (dWay wy) = true := by
  refine pairs_yes (by rw [List.length_map]; exact h.1) fun i x d h1 h2 => ?_
  rw [List.getElem?_map] at h2
  cases e : wy[i]? with
  | none =>
    rw [e] at h2
    cases h2
  | some p =>
    rw [e] at h2
    cases h2
    obtain ⟨a, b, c, dd⟩ := h.2 i p x e h1
    show (decide (0 ≤ p.1) && decide (p.1 < (us.length : Int)) && decide (us[p.1.toNat]? = some (((p.2.map PyData.int).length : Nat) : Int)) && (p.2.map PyData.int).all (wellD x)) = true
    rw [decide_eq_true a, decide_eq_true b, List.length_map, decide_eq_true c, wells_ints dd]
    rfl
theorem dq_pair {N : Addr → Prop} {H : Hp} {a b : Addr} {q : Int × List Int} (e : H a = some (.tup [.int q.1, .ref b])) (e2 : H b = some (.tup (q.2.map V.int))) : Dq N H (.ref a) (dPair q) := .tup e (.cons (.int _) (.cons (.tup e2 (DqAll.ints q.2)) .nil))
theorem dq_pairs {N : Addr → Prop} {H : Hp} : ∀ {xs : List V} {fs : List (Int × List Int)}, Pairs H xs fs → DqAll N H xs (fs.map dPair)
  | [], [], _ => .nil
  | [], f :: fs, h => by cases h.1
  | x :: xs, [], h => by cases h.1
  | x :: xs, f :: fs, h => by
    obtain ⟨a, b, rfl, e1, e2⟩ := h.2 0 x f rfl rfl
    exact .cons (dq_pair e1 e2) (dq_pairs ⟨Nat.succ.inj h.1, fun i x p h1 h2 => h.2 (i + 1) x p h1 h2⟩)
theorem dq_way {N : Addr → Prop} {H : Hp} {a : Addr} {wy : List (Int × List Int)} (h : Way H a wy) : Dq N H (.ref a) (dWay wy) := by
  obtain ⟨xs, e, ps⟩ := h
  exact .tup e (dq_pairs ps)
/-! ### tuples put together and cut, whatever lies in them -/
theorem Told.same {N : Addr → Prop} {H H' : Hp} (t : Told N H) (s : Same H H') : Told N H' := fun a n h => t a n (s.free h)
theorem Any.same {N : Addr → Prop} {H H' : Hp} {v : V} (h : Any N H v) (s : Same H H') : Any N H' v := h.keep (Same.keepD s)
theorem same_refl {H : Hp} : Same H H := fun _ _ e => e
theorem r_cat {K : PySem.W.Frag} {H : Hp} {a b : Addr} {xs ys : List V} {Q : V → Hp → Prop} (ea : H a = some (.tup xs)) (eb : H b = some (.tup ys)) (hl : xs.length + ys.length ≤ 1000) (q : ∀ c H', Same H H' → H' c = some (.tup (xs ++ ys)) → Q (.ref c) H') : rCatA K (.ref a) (.ref b) H Q :=
  ⟨a, b, xs, ys, rfl, rfl, SqT.of ea, SqT.of eb, Nat.le_of_lt (small1000 hl), fun e => q b H same_refl (by rw [e]; exact eb), fun _ e => q a H same_refl (by rw [e, List.append_nil]; exact ea), fun _ _ p hp => q p _ (same_upd hp) upd_same⟩
theorem r_sl {K : PySem.W.Frag} {H : Hp} {a : Addr} {xs : List V} {lo hi : Option Int} {Q : V → Hp → Prop} (ea : H a = some (.tup xs)) (q : ∀ c H' zs, Same H H' → H' c = some (.tup zs) → (∀ z ∈ zs, z ∈ xs) → zs.length ≤ xs.length → Q (.ref c) H') : rSlA K (.ref a) lo hi H Q :=
  ⟨a, xs, rfl, SqT.of ea, fun _ => q a H xs same_refl ea (fun _ h => h) (Nat.le_refl _), fun _ p hp => q p _ _ (same_upd hp) upd_same (fun z h => List.mem_of_mem_drop (List.mem_of_mem_take h)) (cutV_length _ _ _)⟩
theorem r_slN {K : PySem.W.Frag} {σ : L2.St} {H : Hp} {a : Addr} {xs : List V} {lo : Option Int} {Q : V → Hp → Prop} (ea : H a = some (.tup xs)) (q : ∀ c H' zs, Same H H' → H' c = some (.tup zs) → (∀ z ∈ zs, z ∈ xs) → zs.length ≤ xs.length → Q (.ref c) H') : tNoPart σ H (fun u H3 => rSlA K (.ref a) lo u H3 Q) := r_sl ea q
theorem Any.mems {N : Addr → Prop} {H : Hp} {a : Addr} {xs : List V} (h : Any N H (.ref a)) (e : H a = some (.tup xs)) : ∀ x ∈ xs, Any N H x := by
  obtain ⟨d, hd⟩ := h
  cases hd with
  | lst e' _ _ =>
    rw [e] at e'
    cases e'
  | tup e' hs =>
    rw [e] at e'
    cases e'
    exact all_any hs
/-! ### the data of a way -/
theorem canLay_pairs : ∀ wy : List (Int × List Int), PyData.canLayAll0 (wy.map dPair) = true
  | [] => by simp [PyData.canLayAll0]
  | p :: r => by
    have ih := canLay_pairs r
    have h := canLay_ints p.2
    simp only [List.map_cons, PyData.canLayAll0, dPair, PyData.canLay0, Bool.true_and, Bool.and_true, h]
    exact ih
theorem depth_pairs : ∀ wy : List (Int × List Int), PyData.depthAll (wy.map dPair) ≤ 3
  | [] => by simp [PyData.depthAll]
  | p :: r => by
    have ih := depth_pairs r
    have h := depth_ints p.2
    simp only [List.map_cons, PyData.depthAll, dPair, PyData.depth]
    omega
theorem shaped_way (wy : List (Int × List Int)) : SeqAt.shaped (dWay wy) = true := by
  have h1 := canLay_pairs wy
  have h2 := depth_pairs wy
  unfold SeqAt.shaped
  rw [show PyData.canLay0 (dWay wy) = PyData.canLayAll0 (wy.map dPair) by simp only [dWay, PyData.canLay0], h1, Bool.true_and]
  refine decide_eq_true ?_
  rw [show PyData.depth (dWay wy) = PyData.depthAll (wy.map dPair) + 1 by simp only [dWay, PyData.depth]]
  omega
theorem eqv_way0 : ∀ wy : List (Int × List Int), PyData.eqv (dWay wy) (.tuple []) = wy.isEmpty
  | [] => by simp [dWay, PyData.eqv, PyData.eqvAll]
  | n :: r => by simp [dWay, PyData.eqv, PyData.eqvAll]
/-! ### heaps that grow by things -/
def AnyL (N : Addr → Prop) (H : Hp) (xs : List V) : Prop := ∀ x ∈ xs, Any N H x
theorem AnyL.keep {N : Addr → Prop} {H H' : Hp} {xs : List V} (h : AnyL N H xs) (k : KeepD N H H') : AnyL N H' xs := fun x hx => (h x hx).keep k
theorem AnyL.same {N : Addr → Prop} {H H' : Hp} {xs : List V} (h : AnyL N H xs) (s : Same H H') : AnyL N H' xs := h.keep (Same.keepD s)
theorem anyL_nil {N : Addr → Prop} {H : Hp} : AnyL N H [] := fun x hx => by cases hx
theorem anyL_cons {N : Addr → Prop} {H : Hp} {v : V} {xs : List V} (a : Any N H v) (b : AnyL N H xs) : AnyL N H (v :: xs) := fun x hx => by
  rcases List.mem_cons.mp hx with rfl | hx
  · exact a
  · exact b x hx
theorem anyL_app {N : Addr → Prop} {H : Hp} {xs ys : List V} (a : AnyL N H xs) (b : AnyL N H ys) : AnyL N H (xs ++ ys) := fun x hx => by
  rcases List.mem_append.mp hx with hx | hx
  · exact a x hx
  · exact b x hx
theorem anyL_ints {N : Addr → Prop} {H : Hp} (ns : List Int) : AnyL N H (ns.map V.int) := fun x hx => by
  obtain ⟨n, _, rfl⟩ := List.mem_map.mp hx
  exact any_int
/-- the source stands, the rest is kept, what is left out stands -/
structure Bu (N : Addr → Prop) (p l : Addr) (H0 H : Hp) : Prop where
  sc : Sc p l H
  kp : Kp p l H0 H
  td : Told N H
theorem Bu.same {N : Addr → Prop} {p l : Addr} {H0 H H' : Hp} (b : Bu N p l H0 H) (s : Same H H') : Bu N p l H0 H' := ⟨b.sc.same s, b.kp.trans (.of_same s), b.td.same s⟩
theorem Bu.draw {N : Addr → Prop} {p l : Addr} {H0 H H' : Hp} (b : Bu N p l H0 H) (S : Sc p l H') (k : Kp p l H H') : Bu N p l H0 H' := ⟨S, b.kp.trans k, b.td.kp S k⟩
theorem Bu.free {N : Addr → Prop} {p l a : Addr} {H0 H : Hp} (b : Bu N p l H0 H) (h : H a = none) : H0 a = none := b.kp.free b.sc h
/-- a new tuple -/
theorem new_tup {N : Addr → Prop} {H : Hp} {a : Addr} {xs : List V} (h : H a = none) (hx : AnyL N H xs) : Same H (upd H a (.tup xs)) ∧ Any N (upd H a (.tup xs)) (.ref a) := ⟨same_upd h, any_tup upd_same (hx.same (same_upd h))⟩
/-- a new list -/
theorem new_lst {N : Addr → Prop} {H : Hp} {a : Addr} {xs : List V} (t : Told N H) (h : H a = none) (hx : AnyL N H xs) : Same H (upd H a (.lst xs)) ∧ Any N (upd H a (.lst xs)) (.ref a) := ⟨same_upd h, any_lst upd_same (t.new h) (hx.same (same_upd h))⟩
/-- the list made of a way: at M, of n things -/
def Md (N : Addr → Prop) (p l : Addr) (H0 H3 : Hp) (M : Addr) (n : Nat) (H : Hp) : Prop := ∃ xs, H M = some (.lst xs) ∧ xs.length = n ∧ AnyL N H xs ∧ Bu N p l H0 H ∧ KeepT H3 H
theorem Md.same {N : Addr → Prop} {p l M : Addr} {H0 H3 H H' : Hp} {n : Nat} (m : Md N p l H0 H3 M n H) (s : Same H H') : Md N p l H0 H3 M n H' := by
  obtain ⟨xs, e, hn, ha, b, k⟩ := m
  exact ⟨xs, s _ _ e, hn, ha.same s, b.same s, k.trans (.of_same s)⟩
theorem Md.draw {N : Addr → Prop} {p l M : Addr} {H0 H3 H H' : Hp} {n : Nat} (m : Md N p l H0 H3 M n H) (np : N p) (nl : N l) (nM : M ≠ p ∧ M ≠ l) (S : Sc p l H') (k : Kp p l H H') : Md N p l H0 H3 M n H' := by
  obtain ⟨xs, e, hn, ha, b, k3⟩ := m
  exact ⟨xs, k.get nM e, hn, ha.keep (k.keepD b.sc np nl), b.draw S k, k3.trans (k.keepT b.sc)⟩
theorem Md.set {N : Addr → Prop} {p l M : Addr} {H0 H3 H : Hp} {n j : Nat} {v : V} {xs : List V} (m : Md N p l H0 H3 M n H) (e : H M = some (.lst xs)) (hM : N M) (nM : M ≠ p ∧ M ≠ l) (f : H0 M = none) (hv : Any N H v) : Md N p l H0 H3 M n (upd H M (.lst (xs.set j v))) := by
  obtain ⟨xs', e', hn, ha, b, k3⟩ := m
  rw [e] at e'
  cases e'
  have kd : KeepD N H (upd H M (.lst (xs.set j v))) := keepD_lst e hM
  refine ⟨_, upd_same, by rw [List.length_set]; exact hn, fun x hx => ?_, ⟨b.sc.lst nM, b.kp.lst f, b.td.upd⟩, k3.trans (keep_lst e)⟩
  rcases List.mem_or_eq_of_mem_set hx with hx | rfl
  · exact (ha x hx).keep kd
  · exact hv.keep kd
/-- the place ahead, the last one behind nought -/
theorem ahead {n : Nat} {a : Int} (h0 : 0 ≤ a) (h1 : a < (n : Int)) : ∃ j, ixN n (a - 1) = some j ∧ j < n := by
  unfold ixN
  by_cases h : 0 ≤ a - 1
  · rw [if_pos h, if_pos (by omega)]
    exact ⟨_, rfl, by omega⟩
  · rw [if_neg h, if_pos (by omega)]
    exact ⟨_, rfl, by omega⟩
theorem ixN_in {n : Nat} {a : Int} (h0 : 0 ≤ a) (h1 : a < (n : Int)) : ixN n a = some a.toNat := by
  unfold ixN
  rw [if_pos h0, if_pos h1]
theorem at_ixN {xs : List V} {i : Int} {j : Nat} (h : ixN xs.length i = some j) (hj : j < xs.length) : atI xs i = some xs[j] := by
  unfold atI
  rw [h]
  exact List.getElem?_eq_getElem hj
mutual
theorem Dq.eqv_refl {N : Addr → Prop} {H : Hp} : ∀ {v : V} {d : PyData}, Dq N H v d → PyData.eqv d d = true
  | _, _, .non => by simp [PyData.eqv]
  | _, _, .bl b => by simp [PyData.eqv]
  | _, _, .int i => by simp [PyData.eqv]
  | _, _, .str x => by simp [PyData.eqv]
  | _, _, .lst _ _ h => by
    have := DqAll.eqv_refl h
    simpa [PyData.eqv] using this
  | _, _, .tup _ h => by
    have := DqAll.eqv_refl h
    simpa [PyData.eqv] using this
theorem DqAll.eqv_refl {N : Addr → Prop} {H : Hp} : ∀ {vs : List V} {ds : List PyData}, DqAll N H vs ds → PyData.eqvAll ds ds = true
  | _, _, .nil => by simp [PyData.eqvAll]
  | _, _, .cons a b => by
    have h1 := Dq.eqv_refl a
    have h2 := DqAll.eqv_refl b
    simp [PyData.eqvAll, h1, h2]
end
theorem depthAll_cons (d : PyData) (ds : List PyData) : PyData.depthAll (d :: ds) = max (PyData.depth d) (PyData.depthAll ds) := by
  simp [PyData.depthAll]
theorem depthAll_nil : PyData.depthAll [] = 0 := by simp [PyData.depthAll]
theorem depth_tup (ds : List PyData) : PyData.depth (.tuple ds) = PyData.depthAll ds + 1 := by simp [PyData.depth]
theorem depth_lst (ds : List PyData) : PyData.depth (.list ds) = PyData.depthAll ds + 1 := by simp [PyData.depth]
theorem lay_cons (d : PyData) (ds : List PyData) : PyData.canLayAll0 (d :: ds) = (PyData.canLay0 d && PyData.canLayAll0 ds) := by simp [PyData.canLayAll0]
theorem lay_tup (ds : List PyData) : PyData.canLay0 (.tuple ds) = PyData.canLayAll0 ds := by simp [PyData.canLay0]
theorem lay_lst (ds : List PyData) : PyData.canLay0 (.list ds) = PyData.canLayAll0 ds := by simp [PyData.canLay0]
/-- a datum that is not deep -/
def Flat (n : Nat) (d : PyData) : Prop := PyData.canLay0 d = true ∧ PyData.depth d ≤ n
def FlatL (n : Nat) (ds : List PyData) : Prop := PyData.canLayAll0 ds = true ∧ PyData.depthAll ds ≤ n
theorem Flat.shaped {n : Nat} {d : PyData} (h : Flat n d) (hn : n ≤ 64) : SeqAt.shaped d = true := by
  unfold SeqAt.shaped
  rw [h.1, Bool.true_and]
  exact decide_eq_true (Nat.le_trans h.2 hn)
theorem flatL_nil {n : Nat} : FlatL n [] := ⟨by simp [PyData.canLayAll0], by rw [depthAll_nil]; omega⟩
theorem flatL_cons {n : Nat} {d : PyData} {ds : List PyData} (a : Flat n d) (b : FlatL n ds) : FlatL n (d :: ds) := ⟨by rw [lay_cons, a.1, b.1]; rfl, by
  rw [depthAll_cons]
  have h1 := a.2
  have h2 := b.2
  omega⟩
theorem flatL_of {n : Nat} : ∀ {ds : List PyData}, (∀ d ∈ ds, Flat n d) → FlatL n ds
  | [], _ => flatL_nil
  | d :: ds, h => flatL_cons (h d List.mem_cons_self) (flatL_of fun x hx => h x (List.mem_cons_of_mem _ hx))
theorem flatL_mem {n : Nat} : ∀ {ds : List PyData}, FlatL n ds → ∀ d ∈ ds, Flat n d
  | [], _, d, hd => by cases hd
  | e :: ds, h, d, hd => by
    obtain ⟨h1, h2⟩ := h
    rw [lay_cons, Bool.and_eq_true] at h1
    rw [depthAll_cons] at h2
    rcases List.mem_cons.mp hd with rfl | hd
    · exact ⟨h1.1, by omega⟩
    · exact flatL_mem (ds := ds) ⟨h1.2, by omega⟩ d hd
theorem flat_tup {n : Nat} {ds : List PyData} (h : FlatL n ds) : Flat (n + 1) (.tuple ds) := ⟨by rw [lay_tup]; exact h.1, by rw [depth_tup]; exact Nat.succ_le_succ h.2⟩
theorem flat_lst {n : Nat} {ds : List PyData} (h : FlatL n ds) : Flat (n + 1) (.list ds) := ⟨by rw [lay_lst]; exact h.1, by rw [depth_lst]; exact Nat.succ_le_succ h.2⟩
theorem Flat.mono {n m : Nat} {d : PyData} (h : Flat n d) (k : n ≤ m) : Flat m d := ⟨h.1, Nat.le_trans h.2 k⟩
theorem flat_int {n : Nat} (i : Int) : Flat n (.int i) := ⟨by simp [PyData.canLay0], by simp [PyData.depth]⟩
theorem flat_non {n : Nat} : Flat n .none := ⟨by simp [PyData.canLay0], by simp [PyData.depth]⟩
theorem flat_bl {n : Nat} (b : Bool) : Flat n (.bool b) := ⟨by simp [PyData.canLay0], by simp [PyData.depth]⟩
theorem flat_str {n : Nat} {x : Str} (h : PyData.strOk x = true) : Flat n (.str x) := ⟨by simp [PyData.canLay0, h], by simp [PyData.depth]⟩
theorem flatL_ints {n : Nat} (ns : List Int) : FlatL n (ns.map PyData.int) := flatL_of fun d hd => by
  obtain ⟨i, _, rfl⟩ := List.mem_map.mp hd
  exact flat_int i
/-- some flat datum -/
def AnyF (N : Addr → Prop) (n : Nat) (H : Hp) (v : V) : Prop := ∃ d, Dq N H v d ∧ Flat n d
theorem AnyF.keep {N : Addr → Prop} {n : Nat} {H H' : Hp} {v : V} (h : AnyF N n H v) (k : KeepD N H H') : AnyF N n H' v := let ⟨d, a, b⟩ := h; ⟨d, a.keep k, b⟩
theorem anyF_all {N : Addr → Prop} {n : Nat} {H : Hp} : ∀ {vs : List V}, (∀ v ∈ vs, AnyF N n H v) → ∃ ds, DqAll N H vs ds ∧ FlatL n ds
  | [], _ => ⟨[], .nil, flatL_nil⟩
  | v :: vs, h => by
    obtain ⟨d, hd, hf⟩ := h v List.mem_cons_self
    obtain ⟨ds, hs, hg⟩ := anyF_all (vs := vs) fun x hx => h x (List.mem_cons_of_mem _ hx)
    exact ⟨d :: ds, .cons hd hs, flatL_cons hf hg⟩
/-! ### numbers of fillings and of ways -/
/-- the number of a row of things below n -/
def dig (n : Int) : List Int → Int
  | [] => 0
  | t :: r => t * n ^ r.length + dig n r
def Below (n : Int) (r : List Int) : Prop := ∀ y ∈ r, 0 ≤ y ∧ y < n
theorem below_cons {n t : Int} {r : List Int} (h : Below n (t :: r)) : 0 ≤ t ∧ t < n ∧ Below n r := ⟨(h t List.mem_cons_self).1, (h t List.mem_cons_self).2, fun y hy => h y (List.mem_cons_of_mem _ hy)⟩
theorem pow_nn {n : Int} {k : Nat} (h : 0 ≤ n) : 0 ≤ n ^ k := Int.pow_nonneg h
/-- two places: less by the first -/
theorem two_lt {a b m x y : Int} (hm : 0 ≤ m) (ha : a < b) (hx : x < m) (hy : 0 ≤ y) : a * m + x < b * m + y := by
  have h : (a + 1) * m ≤ b * m := Int.mul_le_mul_of_nonneg_right (by omega) hm
  rw [Int.add_mul, Int.one_mul] at h
  omega
theorem dig_bound {n : Int} : ∀ {r : List Int}, Below n r → 0 ≤ dig n r ∧ dig n r < n ^ r.length
  | [], _ => ⟨Int.le_refl 0, by show (0 : Int) < n ^ 0; rw [Int.pow_zero]; decide⟩
  | t :: r, h => by
    obtain ⟨h0, h1, h2⟩ := below_cons h
    obtain ⟨i0, i1⟩ := dig_bound h2
    have hm : 0 ≤ n ^ r.length := pow_nn (by omega)
    refine ⟨Int.add_nonneg (Int.mul_nonneg h0 hm) i0, ?_⟩
    have := two_lt hm h1 i1 (Int.le_refl 0)
    rw [Int.add_zero] at this
    rw [List.length_cons, Int.pow_succ, Int.mul_comm (n ^ r.length) n]
    exact this
theorem dig_lt {n : Int} : ∀ {a b : List Int}, a.length = b.length → Below n a → Below n b → LtL a b → dig n a < dig n b
  | x :: a, y :: b, hl, ha, hb, h => by
    obtain ⟨x0, x1, x2⟩ := below_cons ha
    obtain ⟨y0, y1, y2⟩ := below_cons hb
    have hl' : a.length = b.length := by simpa using hl
    have hm : 0 ≤ n ^ b.length := pow_nn (by omega)
    show x * n ^ a.length + dig n a < y * n ^ b.length + dig n b
    rw [hl']
    rcases h with h | ⟨rfl, h⟩
    · have h1 := (dig_bound x2).2
      rw [hl'] at h1
      exact two_lt hm h h1 (dig_bound y2).1
    · have := dig_lt hl' x2 y2 h
      omega
theorem ltl_tri : ∀ {a b : List Int}, a.length = b.length → LtL a b ∨ a = b ∨ LtL b a
  | [], [], _ => .inr (.inl rfl)
  | x :: a, y :: b, hl => by
    have hl' : a.length = b.length := by simpa using hl
    by_cases h1 : x < y
    · exact .inl (.inl h1)
    · by_cases h2 : y < x
      · exact .inr (.inr (.inl h2))
      · obtain rfl : x = y := by omega
        rcases ltl_tri hl' with h | rfl | h
        · exact .inl (.inr ⟨rfl, h⟩)
        · exact .inr (.inl rfl)
        · exact .inr (.inr (.inr ⟨rfl, h⟩))
theorem dig_snoc (n t : Int) : ∀ r : List Int, dig n (r ++ [t]) = dig n r * n + t
  | [] => by simp [dig]
  | x :: r => by
    show x * n ^ (r ++ [t]).length + dig n (r ++ [t]) = (x * n ^ r.length + dig n r) * n + t
    rw [dig_snoc n t r, List.length_append, List.length_singleton, Int.pow_succ, Int.add_mul, Int.mul_assoc]
    omega
theorem dig_surj {n : Int} : ∀ (w : Nat) {k : Int}, 0 ≤ k → k < n ^ w → 0 ≤ n → ∃ r, r.length = w ∧ Below n r ∧ dig n r = k
  | 0, k, h0, h1, _ => ⟨[], rfl, (fun y hy => by cases hy), by
    have : n ^ 0 = 1 := Int.pow_zero n
    show (0 : Int) = k
    omega⟩
  | w + 1, k, h0, h1, hn => by
    have hp : 0 < n ^ w := by
      by_cases h : 0 < n ^ w
      · exact h
      · have : n ^ w = 0 := by
          have := pow_nn (k := w) hn
          omega
        rw [Int.pow_succ, this, Int.zero_mul] at h1
        omega
    obtain ⟨r, hl, hb, hd⟩ := dig_surj w (k := k % n ^ w) (Int.emod_nonneg _ (by omega)) (Int.emod_lt_of_pos _ hp) hn
    refine ⟨k / n ^ w :: r, by rw [List.length_cons, hl], fun y hy => ?_, ?_⟩
    · rcases List.mem_cons.mp hy with rfl | hy
      · refine ⟨Int.ediv_nonneg h0 (by omega), ?_⟩
        rw [Int.pow_succ, Int.mul_comm] at h1
        exact Int.ediv_lt_of_lt_mul hp h1
      · exact hb y hy
    · show k / n ^ w * n ^ r.length + dig n r = k
      rw [hl, hd, Int.mul_comm]
      exact Int.mul_ediv_add_emod k (n ^ w)
/-! ### fillings -/
def FillOk (n : Int) (us : List Int) (p : Int × List Int) : Prop := 0 ≤ p.1 ∧ p.1 < (us.length : Int) ∧ us[p.1.toNat]? = some ((p.2.length : Nat) : Int) ∧ Below n p.2
def fnum (n : Int) (us : List Int) (p : Int × List Int) : Int := cnt n (us.take p.1.toNat) + dig n p.2
theorem cnt_take_mono {n : Int} (h : 0 ≤ n) (us : List Int) {i j : Nat} (hij : i ≤ j) : cnt n (us.take i) ≤ cnt n (us.take j) := by
  have := cnt_take_le h (us.take j) i
  rw [List.take_take, Nat.min_eq_left hij] at this
  exact this
theorem fnum_step {n : Int} {us : List Int} {p : Int × List Int} (h : FillOk n us p) : cnt n (us.take p.1.toNat) ≤ fnum n us p ∧ fnum n us p < cnt n (us.take (p.1.toNat + 1)) := by
  obtain ⟨h0, h1, h2, h3⟩ := h
  obtain ⟨d0, d1⟩ := dig_bound h3
  have e := cnt_take (n := n) h2
  rw [Int.toNat_natCast] at e
  unfold fnum
  omega
theorem fnum_bound {n : Int} {us : List Int} {p : Int × List Int} (hn : 0 ≤ n) (h : FillOk n us p) : 0 ≤ fnum n us p ∧ fnum n us p < cnt n us := by
  obtain ⟨a, b⟩ := fnum_step h
  have h1 := cnt_nonneg hn (us.take p.1.toNat)
  have h2 := cnt_take_le hn us (p.1.toNat + 1)
  omega
theorem fnum_lt {n : Int} {us : List Int} {p q : Int × List Int} (hn : 0 ≤ n) (hp : FillOk n us p) (hq : FillOk n us q) (h : LtP p q) : fnum n us p < fnum n us q := by
  rcases h with h | ⟨e, h⟩
  · have a := (fnum_step hp).2
    have b := (fnum_step hq).1
    have c := cnt_take_mono hn us (i := p.1.toNat + 1) (j := q.1.toNat) (by have := hp.1; omega)
    omega
  · obtain ⟨_, _, p2, p3⟩ := hp
    obtain ⟨_, _, q2, q3⟩ := hq
    rw [e, q2] at p2
    have hl : p.2.length = q.2.length := by
      have := Option.some.inj p2
      omega
    have := dig_lt hl p3 q3 h
    unfold fnum
    rw [e]
    omega
theorem ltp_tri {n : Int} {us : List Int} {p q : Int × List Int} (hp : FillOk n us p) (hq : FillOk n us q) : LtP p q ∨ p = q ∨ LtP q p := by
  by_cases h1 : p.1 < q.1
  · exact .inl (.inl h1)
  · by_cases h2 : q.1 < p.1
    · exact .inr (.inr (.inl h2))
    · have e : p.1 = q.1 := by omega
      have p2 := hp.2.2.1
      rw [e, hq.2.2.1] at p2
      have hl : p.2.length = q.2.length := by
        have := Option.some.inj p2
        omega
      rcases ltl_tri hl with h | h | h
      · exact .inl (.inr ⟨e, h⟩)
      · exact .inr (.inl (Prod.ext e h))
      · exact .inr (.inr (.inr ⟨e.symm, h⟩))
theorem fnum_surj {n : Int} {us : List Int} (hn : 0 ≤ n) (hu : ∀ x ∈ us, 0 ≤ x) : ∀ (i : Nat) {k : Int}, i ≤ us.length → 0 ≤ k → k < cnt n (us.take i) → ∃ p, FillOk n us p ∧ fnum n us p = k
  | 0, k, _, h0, h1 => by
    rw [List.take_zero] at h1
    have : cnt n [] = 0 := rfl
    omega
  | i + 1, k, hi, h0, h1 => by
    by_cases hk : k < cnt n (us.take i)
    · exact fnum_surj hn hu i (by omega) h0 hk
    · have g : us[i]? = some us[i] := List.getElem?_eq_getElem (by omega)
      rw [cnt_take g] at h1
      obtain ⟨r, hl, hb, hd⟩ := dig_surj us[i].toNat (k := k - cnt n (us.take i)) (by omega) (by omega) hn
      have := hu _ (List.getElem_mem (show i < us.length by omega))
      refine ⟨((i : Int), r), ⟨by show (0 : Int) ≤ i; omega, by show (i : Int) < _; omega, ?_, hb⟩, ?_⟩
      · show us[((i : Int)).toNat]? = some ((r.length : Nat) : Int)
        rw [Int.toNat_natCast, g, hl]
        congr 1
        omega
      · show cnt n (us.take ((i : Int)).toNat) + dig n r = k
        rw [Int.toNat_natCast, hd]
        omega
/-! ### ways -/
def manyW (us : List Int) : List Int → Int
  | [] => 1
  | x :: ws => cnt x us * manyW us ws
def wnum (us : List Int) : List Int → List (Int × List Int) → Int
  | x :: ws, p :: wy => fnum x us p * manyW us ws + wnum us ws wy
  | _, _ => 0
theorem many_nn {us : List Int} : ∀ {ws : List Int}, (∀ x ∈ ws, 0 ≤ x) → 0 ≤ manyW us ws
  | [], _ => by show (0 : Int) ≤ 1; decide
  | x :: ws, h => Int.mul_nonneg (cnt_nonneg (h x List.mem_cons_self) us) (many_nn fun y hy => h y (List.mem_cons_of_mem _ hy))
theorem wayOk_cons {us ws : List Int} {x : Int} {p : Int × List Int} {wy : List (Int × List Int)} : WayOk (x :: ws) us (p :: wy) ↔ FillOk x us p ∧ WayOk ws us wy := by
  constructor
  · rintro ⟨hl, h⟩
    refine ⟨h 0 p x rfl rfl, by simpa using hl, fun i q y h1 h2 => h (i + 1) q y h1 h2⟩
  · rintro ⟨hp, hl, h⟩
    refine ⟨by simpa using hl, fun i q y h1 h2 => ?_⟩
    cases i with
    | zero =>
      cases h1
      cases h2
      exact hp
    | succ i => exact h i q y h1 h2
theorem wnum_bound {us : List Int} : ∀ {ws : List Int} {wy : List (Int × List Int)}, (∀ x ∈ ws, 0 ≤ x) → WayOk ws us wy → 0 ≤ wnum us ws wy ∧ wnum us ws wy < manyW us ws
  | [], wy, _, h => by
    have : wy = [] := List.length_eq_zero_iff.mp h.1
    subst this
    exact ⟨Int.le_refl 0, by show (0 : Int) < 1; decide⟩
  | x :: ws, [], _, h => by cases h.1
  | x :: ws, p :: wy, hw, h => by
    obtain ⟨hp, hr⟩ := wayOk_cons.mp h
    have hw' : ∀ y ∈ ws, 0 ≤ y := fun y hy => hw y (List.mem_cons_of_mem _ hy)
    obtain ⟨i0, i1⟩ := wnum_bound hw' hr
    obtain ⟨f0, f1⟩ := fnum_bound (hw x List.mem_cons_self) hp
    have hm := many_nn (us := us) hw'
    refine ⟨Int.add_nonneg (Int.mul_nonneg f0 hm) i0, ?_⟩
    have := two_lt hm f1 i1 (Int.le_refl 0)
    rw [Int.add_zero] at this
    exact this
theorem ltl_irr : ∀ {a : List Int}, LtL a a → False
  | x :: a, h => by
    rcases h with h | ⟨_, h⟩
    · omega
    · exact ltl_irr h
def LtW : List (Int × List Int) → List (Int × List Int) → Prop
  | p :: a, q :: b => LtP p q ∨ (p = q ∧ LtW a b)
  | _, _ => False
theorem wnum_lt {us : List Int} : ∀ {ws : List Int} {a b : List (Int × List Int)}, (∀ x ∈ ws, 0 ≤ x) → WayOk ws us a → WayOk ws us b → LtW a b → wnum us ws a < wnum us ws b
  | [], a, b, _, ha, hb, h => by
    have : a = [] := List.length_eq_zero_iff.mp ha.1
    subst this
    cases h
  | x :: ws, p :: a, q :: b, hw, ha, hb, h => by
    obtain ⟨hp, ha'⟩ := wayOk_cons.mp ha
    obtain ⟨hq, hb'⟩ := wayOk_cons.mp hb
    have hw' : ∀ y ∈ ws, 0 ≤ y := fun y hy => hw y (List.mem_cons_of_mem _ hy)
    show fnum x us p * manyW us ws + wnum us ws a < fnum x us q * manyW us ws + wnum us ws b
    rcases h with h | ⟨rfl, h⟩
    · exact two_lt (many_nn hw') (fnum_lt (hw x List.mem_cons_self) hp hq h) (wnum_bound hw' ha').2 (wnum_bound hw' hb').1
    · have := wnum_lt hw' ha' hb' h
      omega
theorem ltw_tri {us : List Int} : ∀ {ws : List Int} {a b : List (Int × List Int)}, WayOk ws us a → WayOk ws us b → LtW a b ∨ a = b ∨ LtW b a
  | [], a, b, ha, hb => by
    have h1 : a = [] := List.length_eq_zero_iff.mp ha.1
    have h2 : b = [] := List.length_eq_zero_iff.mp hb.1
    exact .inr (.inl (h1.trans h2.symm))
  | x :: ws, [], _, ha, _ => by cases ha.1
  | x :: ws, p :: a, [], _, hb => by cases hb.1
  | x :: ws, p :: a, q :: b, ha, hb => by
    obtain ⟨hp, ha'⟩ := wayOk_cons.mp ha
    obtain ⟨hq, hb'⟩ := wayOk_cons.mp hb
    rcases ltp_tri hp hq with h | rfl | h
    · exact .inl (.inl h)
    · rcases ltw_tri ha' hb' with h | rfl | h
      · exact .inl (.inr ⟨rfl, h⟩)
      · exact .inr (.inl rfl)
      · exact .inr (.inr (.inr ⟨rfl, h⟩))
    · exact .inr (.inr (.inl h))
/-- the lesser number is the lesser way -/
theorem ltw_of {us ws : List Int} {a b : List (Int × List Int)} (hw : ∀ x ∈ ws, 0 ≤ x) (ha : WayOk ws us a) (hb : WayOk ws us b) (h : wnum us ws a < wnum us ws b) : LtW a b := by
  rcases ltw_tri ha hb with q | rfl | q
  · exact q
  · omega
  · have := wnum_lt hw hb ha q
    omega
theorem wnum_inj {us ws : List Int} {a b : List (Int × List Int)} (hw : ∀ x ∈ ws, 0 ≤ x) (ha : WayOk ws us a) (hb : WayOk ws us b) (h : wnum us ws a = wnum us ws b) : a = b := by
  rcases ltw_tri ha hb with q | q | q
  · have := wnum_lt hw ha hb q
    omega
  · exact q
  · have := wnum_lt hw hb ha q
    omega
theorem wnum_surj {us : List Int} (hu : ∀ x ∈ us, 0 ≤ x) : ∀ {ws : List Int} {k : Int}, (∀ x ∈ ws, 0 ≤ x) → 0 ≤ k → k < manyW us ws → ∃ wy, WayOk ws us wy ∧ wnum us ws wy = k
  | [], k, _, h0, h1 => by
    refine ⟨[], ⟨rfl, fun i p x h => by cases h⟩, ?_⟩
    have h1 : k < 1 := h1
    show (0 : Int) = k
    omega
  | x :: ws, k, hw, h0, h1 => by
    have hw' : ∀ y ∈ ws, 0 ≤ y := fun y hy => hw y (List.mem_cons_of_mem _ hy)
    have h1 : k < cnt x us * manyW us ws := h1
    have hm : 0 < manyW us ws := by
      have := many_nn (us := us) hw'
      by_cases h : 0 < manyW us ws
      · exact h
      · have e : manyW us ws = 0 := by omega
        rw [e, Int.mul_zero] at h1
        omega
    obtain ⟨wy, ok, e⟩ := wnum_surj hu (ws := ws) (k := k % manyW us ws) hw' (Int.emod_nonneg _ (by omega)) (Int.emod_lt_of_pos _ hm)
    obtain ⟨p, hp, ep⟩ := fnum_surj (hw x List.mem_cons_self) hu us.length (k := k / manyW us ws) (Nat.le_refl _) (Int.ediv_nonneg h0 (by omega)) (by rw [List.take_length]; exact Int.ediv_lt_of_lt_mul hm h1)
    refine ⟨p :: wy, wayOk_cons.mpr ⟨hp, ok⟩, ?_⟩
    show fnum x us p * manyW us ws + wnum us ws wy = k
    rw [e, ep, Int.mul_comm]
    exact Int.mul_ediv_add_emod k (manyW us ws)
theorem many_app (us : List Int) : ∀ a b : List Int, manyW us (a ++ b) = manyW us a * manyW us b
  | [], b => by
    show manyW us b = 1 * manyW us b
    rw [Int.one_mul]
  | x :: a, b => by
    show cnt x us * manyW us (a ++ b) = cnt x us * manyW us a * manyW us b
    rw [many_app us a b, Int.mul_assoc]
theorem wnum_app {us : List Int} : ∀ {a b : List Int} {v w : List (Int × List Int)}, v.length = a.length → wnum us (a ++ b) (v ++ w) = wnum us a v * manyW us b + wnum us b w
  | [], b, [], w, _ => by
    show wnum us b w = 0 * manyW us b + wnum us b w
    omega
  | x :: a, b, p :: v, w, h => by
    show fnum x us p * manyW us (a ++ b) + wnum us (a ++ b) (v ++ w) = (fnum x us p * manyW us a + wnum us a v) * manyW us b + wnum us b w
    rw [wnum_app (by simpa using h), many_app, Int.add_mul, Int.mul_assoc]
    omega
theorem wayOk_app {us : List Int} : ∀ {a b : List Int} {v w : List (Int × List Int)}, WayOk a us v → WayOk b us w → WayOk (a ++ b) us (v ++ w)
  | [], b, v, w, h, k => by
    have : v = [] := List.length_eq_zero_iff.mp h.1
    subst this
    exact k
  | x :: a, b, [], w, h, k => by cases h.1
  | x :: a, b, p :: v, w, h, k => by
    obtain ⟨h1, h2⟩ := wayOk_cons.mp h
    exact wayOk_cons.mpr ⟨h1, wayOk_app h2 k⟩
/-! ### < and == of ways as the model has them -/
theorem alike_pairs : ∀ a b : List (Int × List Int), PySem.W.alikeAll (a.map dPair) (b.map dPair) = true
  | [], b => by simp [PySem.W.alikeAll]
  | x :: a, [] => by simp [PySem.W.alikeAll]
  | x :: a, y :: b => by
    have ih := alike_pairs a b
    have h := alike_pair x y
    simp only [List.map_cons, PySem.W.alikeAll, h, Bool.true_and]
    exact ih
theorem alike_way (a b : List (Int × List Int)) : PySem.W.alike (dWay a) (dWay b) = true := by
  have h := alike_pairs a b
  simp only [dWay, PySem.W.alike, h]
theorem eqvAll_ints : ∀ a b : List Int, PyData.eqvAll (a.map PyData.int) (b.map PyData.int) = decide (a = b)
  | [], [] => by simp [PyData.eqvAll]
  | [], y :: b => by simp [PyData.eqvAll]
  | x :: a, [] => by simp [PyData.eqvAll]
  | x :: a, y :: b => by
    rw [List.map_cons, List.map_cons, PySem.W.eqv_all_cons, eqvAll_ints a b]
    by_cases e : x = y
    · subst e
      rw [eqv_int, Bool.true_and]
      by_cases h : a = b
      · rw [decide_eq_true h, decide_eq_true (by rw [h])]
      · rw [decide_eq_false h, decide_eq_false fun q => h (List.cons.inj q).2]
    · rw [eqv_ints_ne e, Bool.false_and, decide_eq_false fun q => e (List.cons.inj q).1]
theorem eqv_pair (p q : Int × List Int) : PyData.eqv (dPair p) (dPair q) = decide (p = q) := by
  unfold dPair
  simp only [PyData.eqv]
  rw [PySem.W.eqv_all_cons, PySem.W.eqv_all_cons]
  simp only [PyData.eqv, PyData.eqvAll, Bool.and_true]
  rw [eqvAll_ints]
  by_cases h1 : p.1 = q.1
  · by_cases h2 : p.2 = q.2
    · rw [decide_eq_true h2, decide_eq_true (Prod.ext h1 h2), h1]
      simp
    · rw [decide_eq_false h2, decide_eq_false fun e => h2 (by rw [e]), Bool.and_false]
  · rw [decide_eq_false (show ¬ p = q from fun e => h1 (by rw [e]))]
    simp [h1]
theorem eqv_pairs : ∀ a b : List (Int × List Int), PyData.eqvAll (a.map dPair) (b.map dPair) = decide (a = b)
  | [], [] => by simp [PyData.eqvAll]
  | [], y :: b => by simp [PyData.eqvAll]
  | x :: a, [] => by simp [PyData.eqvAll]
  | x :: a, y :: b => by
    rw [List.map_cons, List.map_cons, PySem.W.eqv_all_cons, eqv_pairs a b, eqv_pair]
    by_cases e : x = y
    · subst e
      rw [decide_eq_true rfl, Bool.true_and]
      by_cases h : a = b
      · rw [decide_eq_true h, decide_eq_true (by rw [h])]
      · rw [decide_eq_false h, decide_eq_false fun q => h (List.cons.inj q).2]
    · rw [decide_eq_false e, Bool.false_and, decide_eq_false fun q => e (List.cons.inj q).1]
theorem eqv_way (a b : List (Int × List Int)) : PyData.eqv (dWay a) (dWay b) = decide (a = b) := by
  have h := eqv_pairs a b
  simp only [dWay, PyData.eqv]
  exact h
theorem ltw_data0 : ∀ {a b : List (Int × List Int)}, LtW a b → PyProof.Rows.lexLt PyProof.Rows.itemOrd (PySem.W.keyToksAll (a.map dPair)) (PySem.W.keyToksAll (b.map dPair)) = true
  | x :: a, y :: b, h => by
    rw [List.map_cons, List.map_cons]
    by_cases e : x = y
    · subst e
      rcases h with h | ⟨_, h⟩
      · exfalso
        rcases h with h | ⟨_, h⟩
        · omega
        · exact ltl_irr h
      · rw [PySem.W.dataLt_all_yes (alike_pair x x) (by rw [eqv_pair]; exact decide_eq_true rfl)]
        exact ltw_data0 h
    · rcases h with h | ⟨h, _⟩
      · rw [PySem.W.dataLt_all_no (alike_pair x y) (by rw [eqv_pair]; exact decide_eq_false e)]
        exact ltp_data h
      · exact absurd h e
theorem ltw_data {a b : List (Int × List Int)} (h : LtW a b) : PySem.W.dataLt (dWay a) (dWay b) = true := by
  unfold dWay
  rw [PySem.W.dataLt_tuple]
  exact ltw_data0 h
theorem ltl_no : ∀ {a b : List Int}, a = b ∨ LtL b a → PyProof.Rows.lexLt PyProof.Rows.itemOrd (PySem.W.keyToksAll (a.map PyData.int)) (PySem.W.keyToksAll (b.map PyData.int)) = false
  | [], [], _ => by
    simp [PySem.W.keyToksAll, PyProof.Rows.lexLt]
    decide
  | [], _ :: _, h => by
    rcases h with h | h
    · cases h
    · cases h
  | _ :: _, [], h => by
    rcases h with h | h
    · cases h
    · cases h
  | x :: xs, y :: ys, h => by
    rw [List.map_cons, List.map_cons]
    by_cases e : x = y
    · subst e
      rw [PySem.W.dataLt_all_yes (by simp [PySem.W.alike]) (eqv_int x)]
      refine ltl_no ?_
      rcases h with h | h | ⟨_, h⟩
      · exact .inl (List.cons.inj h).2
      · omega
      · exact .inr h
    · rw [PySem.W.dataLt_all_no (by simp [PySem.W.alike]) (eqv_ints_ne e), PySem.W.dataLt_int]
      refine decide_eq_false ?_
      rcases h with h | h | ⟨h, _⟩
      · exact absurd (List.cons.inj h).1 e
      · omega
      · exact absurd h.symm e
theorem ltp_no {p q : Int × List Int} (h : LtP q p) : PySem.W.dataLt (dPair p) (dPair q) = false := by
  unfold dPair
  rw [PySem.W.dataLt_tuple]
  by_cases e : p.1 = q.1
  · rcases h with h | ⟨_, h⟩
    · omega
    · have ne : ¬ p.2 = q.2 := fun z => ltl_irr (a := q.2) (by rw [z] at h; exact h)
      rw [e, PySem.W.dataLt_all_yes (by simp [PySem.W.alike]) (eqv_int q.1)]
      rw [PySem.W.dataLt_all_no (by simp only [PySem.W.alike]; exact alike_ints _ _) (by simp only [PyData.eqv]; rw [eqvAll_ints]; exact decide_eq_false ne), PySem.W.dataLt_tuple]
      exact ltl_no (.inr h)
  · rw [PySem.W.dataLt_all_no (by simp [PySem.W.alike]) (eqv_ints_ne e), PySem.W.dataLt_int]
    rcases h with h | ⟨h, _⟩
    · exact decide_eq_false (by omega)
    · exact absurd h.symm e
theorem ltw_no0 : ∀ {a b : List (Int × List Int)}, a = b ∨ LtW b a → PyProof.Rows.lexLt PyProof.Rows.itemOrd (PySem.W.keyToksAll (a.map dPair)) (PySem.W.keyToksAll (b.map dPair)) = false
  | [], [], _ => by
    simp [PySem.W.keyToksAll, PyProof.Rows.lexLt]
    decide
  | [], _ :: _, h => by
    rcases h with h | h
    · cases h
    · cases h
  | _ :: _, [], h => by
    rcases h with h | h
    · cases h
    · cases h
  | x :: a, y :: b, h => by
    rw [List.map_cons, List.map_cons]
    by_cases e : x = y
    · subst e
      rw [PySem.W.dataLt_all_yes (alike_pair x x) (by rw [eqv_pair]; exact decide_eq_true rfl)]
      refine ltw_no0 ?_
      rcases h with h | h | ⟨_, h⟩
      · exact .inl (List.cons.inj h).2
      · exfalso
        rcases h with h | ⟨_, h⟩
        · omega
        · exact ltl_irr h
      · exact .inr h
    · rw [PySem.W.dataLt_all_no (alike_pair x y) (by rw [eqv_pair]; exact decide_eq_false e)]
      rcases h with h | h | ⟨h, _⟩
      · exact absurd (List.cons.inj h).1 e
      · exact ltp_no h
      · exact absurd h.symm e
/-- < of two ways between the same crates is < of their numbers -/
theorem lt_way {us ws : List Int} {a b : List (Int × List Int)} (hw : ∀ x ∈ ws, 0 ≤ x) (ha : WayOk ws us a) (hb : WayOk ws us b) : PySem.W.dataLt (dWay a) (dWay b) = decide (wnum us ws a < wnum us ws b) := by
  by_cases h : wnum us ws a < wnum us ws b
  · rw [decide_eq_true h]
    exact ltw_data (ltw_of hw ha hb h)
  · rw [decide_eq_false h]
    unfold dWay
    rw [PySem.W.dataLt_tuple]
    refine ltw_no0 ?_
    rcases ltw_tri ha hb with q | q | q
    · exact absurd (wnum_lt hw ha hb q) h
    · exact .inl q
    · exact .inr q
/-! ### how great they are -/
theorem pow12 {n : Int} {k : Nat} (h0 : 0 ≤ n) (h1 : n ≤ 12) (hk : k ≤ 12) : n ^ k ≤ 8916100448256 := by
  obtain ⟨m, rfl⟩ := Int.eq_ofNat_of_zero_le h0
  have a : m ^ k ≤ 12 ^ k := Nat.pow_le_pow_left (by omega) k
  have b : 12 ^ k ≤ 12 ^ 12 := Nat.pow_le_pow_right (by decide) hk
  have c : (12 : Nat) ^ 12 = 8916100448256 := by decide
  have d : ((m : Int)) ^ k = ((m ^ k : Nat) : Int) := (Int.natCast_pow m k).symm
  rw [d]
  omega
theorem cnt_le {n : Int} (h0 : 0 ≤ n) (h1 : n ≤ 12) : ∀ {us : List Int}, (∀ u ∈ us, 0 ≤ u ∧ u ≤ 12) → cnt n us ≤ (us.length : Int) * 8916100448256
  | [], _ => by show (0 : Int) ≤ 0 * _; omega
  | u :: us, h => by
    have ih := cnt_le h0 h1 (us := us) fun y hy => h y (List.mem_cons_of_mem _ hy)
    have hu := h u List.mem_cons_self
    have hp := pow12 (n := n) (k := u.toNat) h0 h1 (by omega)
    have e : cnt n (u :: us) = n ^ u.toNat + cnt n us := by
      show (n ^ u.toNat :: us.map fun x => n ^ x.toNat).sum = _
      rw [List.sum_cons]
      rfl
    rw [e, List.length_cons]
    omega
/-- a factor that op_mul takes -/
theorem cnt_small {n : Int} {us : List Int} (h0 : 0 ≤ n) (h1 : n ≤ 12) (hu : ∀ u ∈ us, 0 ≤ u ∧ u ≤ 12) (hl : us.length ≤ 1000) : -2 ^ 64 < cnt n us ∧ cnt n us < 2 ^ 64 := by
  have a := cnt_nonneg h0 us
  have b := cnt_le h0 h1 hu
  omega
theorem many_take {us ws : List Int} {i : Nat} {x : Int} (h : ws[i]? = some x) : manyW us (ws.take (i + 1)) = manyW us (ws.take i) * cnt x us := by
  rw [List.take_add_one, h]
  show manyW us (ws.take i ++ [x]) = _
  rw [many_app]
  show manyW us (ws.take i) * (cnt x us * 1) = _
  rw [Int.mul_one]
theorem many_le {us : List Int} (hu : ∀ u ∈ us, 0 ≤ u ∧ u ≤ 12) (hl : us.length ≤ 1000) : ∀ {ws : List Int}, (∀ x ∈ ws, 0 ≤ x ∧ x ≤ 12) → manyW us ws ≤ 2 ^ (54 * ws.length)
  | [], _ => by show (1 : Int) ≤ 2 ^ 0; decide
  | x :: ws, h => by
    have hx := h x List.mem_cons_self
    have hws : ∀ y ∈ ws, 0 ≤ y ∧ y ≤ 12 := fun y hy => h y (List.mem_cons_of_mem _ hy)
    have ih := many_le hu hl hws
    have a := cnt_nonneg hx.1 us
    have b := cnt_le hx.1 hx.2 hu
    have c : cnt x us ≤ 2 ^ 54 := by
      have : (2 : Int) ^ 54 = 18014398509481984 := by decide
      omega
    have e : 54 * (x :: ws).length = 54 * ws.length + 54 := by rw [List.length_cons]; omega
    show cnt x us * manyW us ws ≤ 2 ^ (54 * (x :: ws).length)
    rw [e, Int.pow_add, Int.mul_comm]
    exact Int.mul_le_mul ih c a (pow_nn (by decide))
theorem many_log {us ws : List Int} (hu : ∀ u ∈ us, 0 ≤ u ∧ u ≤ 12) (hl : us.length ≤ 1000) (hw : ∀ x ∈ ws, 0 ≤ x ∧ x ≤ 12) (hk : ws.length ≤ 120) {m : Int} (h0 : 0 ≤ m) (h1 : m ≤ manyW us ws) : m.natAbs.log2 < 7000 := by
  refine Nat.lt_of_lt_of_le (PySem.Flt.log2_lt_of (by decide : 0 < 6500) ?_) (by decide)
  have a := many_le hu hl hw
  have b : (2 : Int) ^ (54 * ws.length) = ((2 ^ (54 * ws.length) : Nat) : Int) := (Int.natCast_pow 2 _).symm
  have c : 2 ^ (54 * ws.length) < 2 ^ 6500 := Nat.pow_lt_pow_right (by decide) (by omega)
  have d : m.natAbs ≤ 2 ^ (54 * ws.length) := by omega
  exact Nat.lt_of_le_of_lt d c
/-! ### the numbers from 0 on, the idle way -/
def iota (x : Int) : List Int := (List.range x.toNat).map fun (i : Nat) => (i : Int)
theorem iota_len (x : Int) : (iota x).length = x.toNat := by unfold iota; rw [List.length_map, List.length_range]
theorem iota_get {x : Int} {i : Nat} (h : i < x.toNat) : (iota x)[i]? = some (i : Int) := by
  unfold iota
  rw [List.getElem?_map, List.getElem?_range h]
  rfl
theorem rg_iota (x : Int) : rgV 0 x = (iota x).map V.int := by
  unfold rgV iota
  rw [Int.sub_zero, List.map_map]
  refine List.map_congr_left fun i _ => ?_
  show V.int (0 + (i : Int)) = V.int (i : Int)
  rw [Int.zero_add]
theorem iota_below (x : Int) : Below x (iota x) := fun y hy => by
  obtain ⟨i, hi, rfl⟩ := List.mem_map.mp hy
  have := List.mem_range.mp hi
  omega
def plainF (ws : List Int) (i : Nat) : Int × List Int := ((i : Int), iota (ws.getD i 0))
def idleW (ws : List Int) : List (Int × List Int) := (List.range ws.length).map (plainF ws)
theorem idle_len (ws : List Int) : (idleW ws).length = ws.length := by unfold idleW; rw [List.length_map, List.length_range]
theorem plainF_get {ws : List Int} {i : Nat} {x : Int} (h : ws[i]? = some x) : plainF ws i = ((i : Int), iota x) := by
  unfold plainF
  rw [List.getD_eq_getElem?_getD, h]
  rfl
theorem idle_get {ws : List Int} {i : Nat} {x : Int} (h : ws[i]? = some x) : (idleW ws)[i]? = some ((i : Int), iota x) := by
  unfold idleW
  rw [List.getElem?_map, List.getElem?_range (List.getElem?_eq_some_iff.mp h).1]
  show some (plainF ws i) = _
  rw [plainF_get h]
theorem idle_take (ws : List Int) {i : Nat} (h : i < ws.length) : (idleW ws).take (i + 1) = (idleW ws).take i ++ [plainF ws i] := by
  have g : ws[i]? = some ws[i] := List.getElem?_eq_getElem h
  rw [List.take_add_one, idle_get g, ← plainF_get g]
  rfl
theorem idle_ok {ws : List Int} (hw : ∀ x ∈ ws, 0 ≤ x) : WayOk ws ws (idleW ws) := by
  refine ⟨idle_len ws, fun i p x h1 h2 => ?_⟩
  rw [idle_get h2] at h1
  cases h1
  have h0 := hw x (List.mem_of_getElem? h2)
  have hi := (List.getElem?_eq_some_iff.mp h2).1
  refine ⟨by show (0 : Int) ≤ (i : Int); omega, by show (i : Int) < _; omega, ?_, iota_below x⟩
  show ws[((i : Int)).toNat]? = some (((iota x).length : Nat) : Int)
  rw [Int.toNat_natCast, h2, iota_len]
  congr 1
  omega
theorem Same.of_lst {H H' : Hp} {D : Addr} {xs : List V} (s : Same H H') (f : H D = none) : Same H (upd H' D (.lst xs)) := fun b o e => by
  rw [upd_ne (ne_of_none e f)]
  exact s b o e
theorem iteEq {c A B : Prop} [Decidable c] (hc : c) (h : A) : if decide c = true then A else B := by
  rw [decide_eq_true hc]
  exact iteT h
/-! ### what there is where a way is -/
theorem way_able {ws us : List Int} {wy : List (Int × List Int)} (h : WayOk ws us wy) (n : ∃ x ∈ ws, ∀ u ∈ us, ¬ (0 < x ∨ u = 0)) : False := by
  obtain ⟨x, hx, hn⟩ := n
  obtain ⟨i, hi, rfl⟩ := List.getElem_of_mem hx
  have hi2 : i < wy.length := by rw [h.1]; exact hi
  obtain ⟨h0, h1, h2, h3⟩ := h.2 i _ _ (List.getElem?_eq_getElem hi2) (List.getElem?_eq_getElem hi)
  have q := hn _ (List.mem_of_getElem? h2)
  cases e : wy[i].2 with
  | nil =>
    rw [e] at q
    exact q (.inr rfl)
  | cons y r =>
    have := h3 y (by rw [e]; exact List.mem_cons_self)
    exact q (.inl (by omega))
theorem depth_way (wy : List (Int × List Int)) : PyData.depth (dWay wy) ≤ 64 := by
  have h := depth_pairs wy
  rw [show PyData.depth (dWay wy) = PyData.depthAll (wy.map dPair) + 1 by simp only [dWay, PyData.depth]]
  omega
theorem way_dp {K : PySem.W.Frag} {H : Hp} {a : Addr} {wy : List (Int × List Int)} (h : Way H a wy) : Dp K H (.ref a) (dWay wy) := (dq_way (N := fun _ => False) h).dp
theorem way_none (wy : List (Int × List Int)) : dWay wy ≠ .none := fun e => by cases e
/-! ### promises of the counting -/
def spManyW : Sp := fun vs H Q _ => ∃ (t1 t2 : Addr) (ws us : List Int), vs = [.ref t1, .ref t2] ∧ H t1 = some (.tup (ws.map V.int)) ∧ H t2 = some (.tup (us.map V.int)) ∧ (∀ x ∈ ws, 0 ≤ x ∧ x ≤ 12) ∧ (∀ x ∈ us, 0 ≤ x ∧ x ≤ 12) ∧ ws.length ≤ 120 ∧ us.length ≤ 120 ∧ ∀ H', Same H H' → Q (.int (manyW us ws)) H'
def spNumOf : Sp := fun vs H Q _ => ∃ (t1 t2 tw : Addr) (ws us : List Int) (wy : List (Int × List Int)), vs = [.ref t1, .ref t2, .ref tw] ∧ H t1 = some (.tup (ws.map V.int)) ∧ H t2 = some (.tup (us.map V.int)) ∧ (∀ x ∈ ws, 0 ≤ x ∧ x ≤ 12) ∧ (∀ x ∈ us, 0 ≤ x ∧ x ≤ 12) ∧ ws.length ≤ 120 ∧ us.length ≤ 120 ∧ Way H tw wy ∧ WayOk ws us wy ∧ ∀ H', Same H H' → Q (.int (wnum us ws wy)) H'
def spWayAt : Sp := fun vs H Q _ => ∃ (t1 t2 : Addr) (ws us : List Int) (n : Int), vs = [.ref t1, .ref t2, .int n] ∧ H t1 = some (.tup (ws.map V.int)) ∧ H t2 = some (.tup (us.map V.int)) ∧ (∀ x ∈ ws, 0 ≤ x ∧ x ≤ 12) ∧ (∀ x ∈ us, 0 ≤ x ∧ x ≤ 12) ∧ ws.length ≤ 120 ∧ us.length ≤ 120 ∧ 0 ≤ n ∧ n < manyW us ws ∧ ∀ a wy H', Same H H' → Way H' a wy → WayOk ws us wy → wnum us ws wy = n → Q (.ref a) H'
/-! ### ways side by side, a tray more -/
theorem pairs_app {H : Hp} {xs ys : List V} {a b : List (Int × List Int)} (h : Pairs H xs a) (k : Pairs H ys b) : Pairs H (xs ++ ys) (a ++ b) := by
  refine ⟨by rw [List.length_append, List.length_append, h.1, k.1], fun i x p h1 h2 => ?_⟩
  by_cases hi : i < xs.length
  · rw [List.getElem?_append_left hi] at h1
    rw [List.getElem?_append_left (by rw [← h.1]; exact hi)] at h2
    exact h.2 i x p h1 h2
  · rw [List.getElem?_append_right (by omega)] at h1
    rw [List.getElem?_append_right (by rw [← h.1]; omega), ← h.1] at h2
    exact k.2 _ x p h1 h2
theorem wayOk_more {ws us : List Int} {wy : List (Int × List Int)} (h : WayOk ws us wy) : WayOk ws (us ++ [0]) wy := by
  refine ⟨h.1, fun i p x h1 h2 => ?_⟩
  obtain ⟨a, b, c, d⟩ := h.2 i p x h1 h2
  refine ⟨a, by rw [List.length_append]; show p.1 < ((us.length + 1 : Nat) : Int); omega, ?_, d⟩
  rw [List.getElem?_append_left (by omega)]
  exact c
theorem more_ok {us : List Int} (hu : ∀ x ∈ us, 0 ≤ x ∧ x ≤ 12) : ∀ x ∈ us ++ [0], 0 ≤ x ∧ x ≤ 12 := fun x hx => by
  rcases List.mem_append.mp hx with hx | hx
  · exact hu x hx
  · rw [List.mem_singleton.mp hx]
    exact ⟨by decide, by decide⟩
theorem no_able {ws us : List Int} (n : ∃ x ∈ ws, ∀ u ∈ us ++ [(0 : Int)], ¬ (0 < x ∨ u = 0)) : False := by
  obtain ⟨x, _, hx⟩ := n
  exact hx 0 (by simp) (.inr rfl)
theorem lg45 : ((10 : Int) ^ (45 : Int).toNat).natAbs.log2 < 9000 := Nat.lt_of_lt_of_le (PySem.Flt.log2_lt_of (by decide : 0 < 200) (by decide +kernel)) (by decide)
theorem p45 : (0 : Int) < 10 ^ (45 : Int).toNat := by decide +kernel
theorem lgr45 {r : Int} (h0 : 0 ≤ r) (h1 : r < 10 ^ (45 : Int).toNat) : r.natAbs.log2 < 200 := PySem.Flt.log2_lt_of (by decide : 0 < 200) (by
  have a : (10 : Int) ^ (45 : Int).toNat < ((2 ^ 200 : Nat) : Int) := by decide +kernel
  omega)
def spIdle : Sp := fun vs H Q _ => ∃ (t : Addr) (ws : List Int), vs = [.ref t] ∧ H t = some (.tup (ws.map V.int)) ∧ ws.length ≤ 60 ∧ (∀ x ∈ ws, 0 ≤ x ∧ x ≤ 12) ∧ ∀ a H', Same H H' → H a = none → Way H' a (idleW ws) → Q (.ref a) H'
/-! ### one way and then another -/
def pick (r : List Int) (y : Int) : Int := r.getD y.toNat 0
def stepW (w : List (Int × List Int)) (p : Int × List Int) : Int × List Int :=
  match w[p.1.toNat]? with
  | some q => (q.1, q.2.map (pick p.2))
  | none => (0, [])
def thenW (v w : List (Int × List Int)) : List (Int × List Int) := v.map (stepW w)
theorem step_some {w : List (Int × List Int)} {p q : Int × List Int} (h : w[p.1.toNat]? = some q) : stepW w p = (q.1, q.2.map (pick p.2)) := by
  unfold stepW
  rw [h]
theorem pick_in {r : List Int} {y : Int} (h0 : 0 ≤ y) (h1 : y < (r.length : Int)) : r[y.toNat]? = some (pick r y) := by
  unfold pick
  rw [List.getD_eq_getElem?_getD, List.getElem?_eq_getElem (by omega)]
  rfl
/-- the pair of a way where a filling of its first crate leads -/
theorem way_at {us xs : List Int} {w : List (Int × List Int)} {x : Int} {p : Int × List Int} (hw : WayOk us xs w) (hp : FillOk x us p) : ∃ q, w[p.1.toNat]? = some q ∧ FillOk ((p.2.length : Nat) : Int) xs q := by
  obtain ⟨h0, h1, h2, h3⟩ := hp
  have hl : p.1.toNat < w.length := by rw [hw.1]; omega
  exact ⟨w[p.1.toNat], List.getElem?_eq_getElem hl, hw.2 _ _ _ (List.getElem?_eq_getElem hl) h2⟩
theorem step_ok {us xs : List Int} {w : List (Int × List Int)} {x : Int} {p : Int × List Int} (hw : WayOk us xs w) (hp : FillOk x us p) : FillOk x xs (stepW w p) := by
  obtain ⟨q, hq, q0, q1, q2, q3⟩ := way_at hw hp
  rw [step_some hq]
  refine ⟨q0, q1, by rw [List.length_map]; exact q2, fun y hy => ?_⟩
  obtain ⟨z, hz, rfl⟩ := List.mem_map.mp hy
  obtain ⟨z0, z1⟩ := q3 z hz
  exact hp.2.2.2 _ (List.mem_of_getElem? (pick_in z0 z1))
theorem then_len (v w : List (Int × List Int)) : (thenW v w).length = v.length := List.length_map ..
theorem then_get {v w : List (Int × List Int)} {i : Nat} {p : Int × List Int} (h : v[i]? = some p) : (thenW v w)[i]? = some (stepW w p) := by
  unfold thenW
  rw [List.getElem?_map, h]
  rfl
theorem then_ok {ws us xs : List Int} {v w : List (Int × List Int)} (hv : WayOk ws us v) (hw : WayOk us xs w) : WayOk ws xs (thenW v w) := by
  refine ⟨by rw [then_len, hv.1], fun i p x h1 h2 => ?_⟩
  have hi : i < v.length := by rw [hv.1]; exact (List.getElem?_eq_some_iff.mp h2).1
  have g : v[i]? = some v[i] := List.getElem?_eq_getElem hi
  rw [then_get g] at h1
  cases h1
  exact step_ok hw (hv.2 i _ x g h2)
theorem pick_map {f : Int → Int} {r : List Int} {y : Int} (h0 : 0 ≤ y) (h1 : y < (r.length : Int)) : pick (r.map f) y = f (pick r y) := by
  have a := pick_in h0 h1
  have b : (r.map f)[y.toNat]? = some (pick (r.map f) y) := pick_in h0 (by rw [List.length_map]; exact h1)
  rw [List.getElem?_map, a] at b
  exact (Option.some.inj b).symm
theorem step_step {us xs ys : List Int} {w z : List (Int × List Int)} {x : Int} {p : Int × List Int} (hw : WayOk us xs w) (hz : WayOk xs ys z) (hp : FillOk x us p) : stepW z (stepW w p) = stepW (thenW w z) p := by
  obtain ⟨q, hq, fq⟩ := way_at hw hp
  obtain ⟨r, hr, fr⟩ := way_at hz fq
  rw [step_some hq, step_some (w := thenW w z) (then_get hq), step_some (w := z) (p := (q.1, q.2.map (pick p.2))) hr, step_some hr]
  refine Prod.ext rfl ?_
  show r.2.map (pick (q.2.map (pick p.2))) = (r.2.map (pick q.2)).map (pick p.2)
  rw [List.map_map]
  refine List.map_congr_left fun y hy => ?_
  obtain ⟨y0, y1⟩ := fr.2.2.2 y hy
  exact pick_map y0 y1
theorem then_assoc {ws us xs ys : List Int} {v w z : List (Int × List Int)} (hv : WayOk ws us v) (hw : WayOk us xs w) (hz : WayOk xs ys z) : thenW (thenW v w) z = thenW v (thenW w z) := by
  unfold thenW
  rw [List.map_map]
  refine List.map_congr_left fun p hp => ?_
  obtain ⟨i, hi, rfl⟩ := List.getElem_of_mem hp
  have hi2 : i < ws.length := by rw [← hv.1]; exact hi
  exact step_step hw hz (hv.2 i _ _ (List.getElem?_eq_getElem hi) (List.getElem?_eq_getElem hi2))
theorem pick_iota {x y : Int} (h0 : 0 ≤ y) (h1 : y < x) : pick (iota x) y = y := by
  have a : (iota x)[y.toNat]? = some (pick (iota x) y) := pick_in h0 (by rw [iota_len]; omega)
  rw [iota_get (by omega)] at a
  have := Option.some.inj a
  omega
theorem map_pick_iota (r : List Int) : (iota ((r.length : Nat) : Int)).map (pick r) = r := by
  refine List.ext_getElem? fun i => ?_
  by_cases hi : i < r.length
  · rw [List.getElem?_map, iota_get (by omega)]
    have := pick_in (r := r) (y := (i : Int)) (by omega) (by omega)
    rw [Int.toNat_natCast] at this
    rw [this]
    rfl
  · rw [List.getElem?_eq_none (by rw [List.length_map, iota_len]; omega), List.getElem?_eq_none (by omega)]
theorem idle_then {ws us : List Int} {v : List (Int × List Int)} (hv : WayOk ws us v) : thenW (idleW ws) v = v := by
  refine List.ext_getElem? fun i => ?_
  by_cases hi : i < ws.length
  · have g : ws[i]? = some ws[i] := List.getElem?_eq_getElem hi
    have hiv : i < v.length := by rw [hv.1]; exact hi
    have gv : v[i]? = some v[i] := List.getElem?_eq_getElem hiv
    rw [then_get (idle_get g), step_some (w := v) (p := ((i : Int), iota ws[i])) (q := v[i]) (by show v[((i : Int)).toNat]? = _; rw [Int.toNat_natCast]; exact gv), gv]
    congr 1
    refine Prod.ext rfl ?_
    show v[i].2.map (pick (iota ws[i])) = v[i].2
    refine (List.map_congr_left fun y hy => ?_).trans (List.map_id _)
    obtain ⟨y0, y1⟩ := (hv.2 i _ _ gv g).2.2.2 y hy
    exact pick_iota y0 y1
  · rw [List.getElem?_eq_none (by rw [then_len, idle_len]; omega), List.getElem?_eq_none (by rw [hv.1]; omega)]
theorem then_idle {ws us : List Int} {v : List (Int × List Int)} (hv : WayOk ws us v) : thenW v (idleW us) = v := by
  unfold thenW
  refine (List.map_congr_left fun p hp => ?_).trans (List.map_id _)
  obtain ⟨i, hi, rfl⟩ := List.getElem_of_mem hp
  have hi2 : i < ws.length := by rw [← hv.1]; exact hi
  obtain ⟨h0, h1, h2, h3⟩ := hv.2 i _ _ (List.getElem?_eq_getElem hi) (List.getElem?_eq_getElem hi2)
  rw [step_some (idle_get h2)]
  refine Prod.ext ?_ (map_pick_iota _)
  show ((v[i].1.toNat : Nat) : Int) = v[i].1
  omega
/-! ### promises of the ways -/
def spAfter : Sp := fun vs H Q _ => ∃ (a b : Addr) (ws us xs : List Int) (v w : List (Int × List Int)), vs = [.ref a, .ref b] ∧ Way H a v ∧ Way H b w ∧ WayOk ws us v ∧ WayOk us xs w ∧ ws.length ≤ 120 ∧ us.length ≤ 120 ∧ (∀ x ∈ us, 0 ≤ x ∧ x ≤ 12) ∧ (∀ x ∈ xs, 0 ≤ x ∧ x ≤ 12) ∧ ∀ c H', Same H H' → Way H' c (thenW v w) → Q (.ref c) H'
/-! ### crates and ways from each to the next -/
def Chn (H : Hp) (ts : List Addr) (cs : List (List Int)) (bs : List Addr) (vs : List (List (Int × List Int))) : Prop :=
  ts.length = cs.length ∧ bs.length = vs.length ∧ cs.length = vs.length + 1 ∧ (∀ (j : Nat) (t : Addr) (c : List Int), ts[j]? = some t → cs[j]? = some c → H t = some (.tup (c.map V.int)) ∧ c.length ≤ 60 ∧ ∀ x ∈ c, 0 ≤ x ∧ x ≤ 12) ∧
  ∀ (j : Nat) (b : Addr) (v : List (Int × List Int)) (c d : List Int), bs[j]? = some b → vs[j]? = some v → cs[j]? = some c → cs[j + 1]? = some d → Way H b v ∧ WayOk c d v
theorem Chn.keep {H H' : Hp} {ts : List Addr} {cs : List (List Int)} {bs : List Addr} {vs : List (List (Int × List Int))} (h : Chn H ts cs bs vs) (k : KeepT H H') : Chn H' ts cs bs vs := by
  obtain ⟨h1, h2, h3, h4, h5⟩ := h
  refine ⟨h1, h2, h3, fun j t c a b => ?_, fun j b v c d p q r s => ?_⟩
  · obtain ⟨e, f⟩ := h4 j t c a b
    exact ⟨k _ _ e, f⟩
  · obtain ⟨e, f⟩ := h5 j b v c d p q r s
    exact ⟨e.keep k, f⟩
theorem get_app {α : Type} {xs : List α} {x y : α} {j : Nat} (h : (xs ++ [x])[j]? = some y) : (j < xs.length ∧ xs[j]? = some y) ∨ (j = xs.length ∧ y = x) := by
  by_cases hj : j < xs.length
  · rw [List.getElem?_append_left hj] at h
    exact .inl ⟨hj, h⟩
  · have hlt := (List.getElem?_eq_some_iff.mp h).1
    rw [List.length_append, List.length_singleton] at hlt
    have e : j = xs.length := by omega
    subst e
    rw [List.getElem?_append_right (Nat.le_refl _), Nat.sub_self] at h
    exact .inr ⟨rfl, (Option.some.inj h).symm⟩
theorem Chn.push {H : Hp} {ts : List Addr} {cs : List (List Int)} {bs : List Addr} {vs : List (List (Int × List Int))} {t b : Addr} {c d : List Int} {v : List (Int × List Int)} (h : Chn H ts cs bs vs) (hc : cs[vs.length]? = some c) (ht : H t = some (.tup (d.map V.int))) (hl : d.length ≤ 60) (hd : ∀ x ∈ d, 0 ≤ x ∧ x ≤ 12) (hv : Way H b v) (ok : WayOk c d v) : Chn H (ts ++ [t]) (cs ++ [d]) (bs ++ [b]) (vs ++ [v]) := by
  obtain ⟨h1, h2, h3, h4, h5⟩ := h
  refine ⟨by rw [List.length_append, List.length_append, h1]; rfl, by rw [List.length_append, List.length_append, h2]; rfl, by rw [List.length_append, List.length_append, h3]; rfl, fun j t' c' p q => ?_, fun j b' v' c' d' p q r s => ?_⟩
  · rcases get_app p with ⟨p0, p1⟩ | ⟨rfl, rfl⟩
    · rcases get_app q with ⟨_, q1⟩ | ⟨q0, _⟩
      · exact h4 j t' c' p1 q1
      · omega
    · rcases get_app q with ⟨q0, _⟩ | ⟨_, rfl⟩
      · omega
      · exact ⟨ht, hl, hd⟩
  · rcases get_app p with ⟨p0, p1⟩ | ⟨p0, rfl⟩
    · rcases get_app q with ⟨_, q1⟩ | ⟨q0, _⟩
      · rcases get_app r with ⟨_, r1⟩ | ⟨r0, _⟩
        · rcases get_app s with ⟨_, s1⟩ | ⟨s0, _⟩
          · exact h5 j b' v' c' d' p1 q1 r1 s1
          · omega
        · omega
      · omega
    · rcases get_app q with ⟨q0, _⟩ | ⟨_, rfl⟩
      · omega
      · rcases get_app s with ⟨s0, _⟩ | ⟨s0, rfl⟩
        · omega
        · rcases get_app r with ⟨_, r1⟩ | ⟨r0, _⟩
          · have e : j = vs.length := by omega
            rw [e, hc] at r1
            cases r1
            exact ⟨hv, ok⟩
          · omega
theorem at_last {ts : List Addr} {j : Nat} {t : Addr} (hj : ts.length = j + 1) (h : ts[j]? = some t) : atI (ts.map V.ref) (-1) = some (.ref t) := by
  have e : ts.map V.ref = (ts.take j).map V.ref ++ [.ref t] := by
    rw [show ([V.ref t] : List V) = [t].map V.ref from rfl, ← List.map_append]
    congr 1
    have := List.take_add_one (l := ts) (i := j)
    rw [h, ← hj, List.take_length] at this
    exact this
  rw [e]
  exact atI_last _ _
end Tm

namespace Tm
open PySem PySem.Spec PyProof.Rows L2 HT
/-! ### t[::-1], t a tuple: a new one -/
theorem adjust_rev (n : Nat) : Builtin.Slice.sliceAdjust none none (-1) (n : Int) = ((n : Int) - 1, -1) := by
  unfold Builtin.Slice.sliceAdjust
  rfl
theorem places_rev (n : Nat) : Builtin.Slice.slicePlaces ((n : Int) - 1) (-1) (-1) = n := by
  unfold Builtin.Slice.slicePlaces
  have h1 : ¬ ((-1 : Int) > 0) := by omega
  simp only [h1, if_false, show (- -1 : Int) = 1 by decide, Int.ediv_one]
  split <;> omega
theorem fm_congr {α β : Type} {f g : α → Option β} : ∀ {l : List α}, (∀ x ∈ l, f x = g x) → l.filterMap f = l.filterMap g
  | [], _ => rfl
  | x :: l, h => by
    rw [List.filterMap_cons, List.filterMap_cons, h x List.mem_cons_self, fm_congr fun y hy => h y (List.mem_cons_of_mem _ hy)]
theorem pick_rev (xs : Array Value) : ((List.range xs.size).filterMap fun (m : Nat) => xs[((xs.size : Int) - 1 + (m : Int) * -1).toNat]?).toArray = xs.toList.reverse.toArray := by
  congr 1
  have h := PySem.W.krv_all xs
  rw [← h, ← List.filterMap_reverse, ← PySem.W.krv_range, List.filterMap_map]
  refine fm_congr fun m hm => ?_
  have := List.mem_range.mp hm
  show xs[((xs.size : Int) - 1 + (m : Int) * -1).toNat]? = xs[xs.size - 1 - m]?
  rw [show ((xs.size : Int) - 1 + (m : Int) * -1).toNat = xs.size - 1 - m by omega]
section
variable {prog : Program} {w : World} {A : Around} {E : Value → Shared → Prop} {s : Shared}
theorem sliceApplied_rev {sl : Addr} {vl vu vs : Value} {n : Nat} {Q : Int × Int × Nat → Shared → Prop} (hs : s.heap.IsSliceOf sl vl vu vs) (pl : IsPart vl none) (pu : IsPart vu none) (ps : IsPart vs (some (-1)))
    (h : Q ((n : Int) - 1, -1, n) s) : wpAny (model prog w) A (Builtin.Slice.sliceApplied (.ref sl) (pure (n : Int))) Q E s := by
  obtain ⟨os, hos, hcs, hds⟩ := id hs
  unfold Builtin.Slice.sliceApplied Builtin.Slice.sliceFields
  refine wpAny_bind (wpAny_bind (wpAny_field hos hds (x := vl) rfl (wpAny_bind (wpAny_field hos hds (x := vu) rfl (wpAny_bind (wpAny_field hos hds (x := vs) rfl (wpAny_pure ?_)))))))
  refine wpAny_bind (slicePart_ ps ?_)
  show wpAny _ _ (if ((-1 : Int) == 0) = true then _ else _) _ _ s
  rw [if_neg (by decide)]
  refine wpAny_bind (slicePart_ pl (wpAny_bind (slicePart_ pu (wpAny_bind (wpAny_pure ?_)))))
  show wpAny _ _ (match Builtin.Slice.sliceAdjust none none (-1) (n : Int) with | (lo, hi) => pure (lo, (-1 : Int), Builtin.Slice.slicePlaces lo hi (-1))) _ _ s
  rw [adjust_rev n]
  show wpAny _ _ (pure ((n : Int) - 1, (-1 : Int), Builtin.Slice.slicePlaces ((n : Int) - 1) (-1) (-1))) _ _ s
  rw [places_rev]
  exact wpAny_pure h
theorem getItem_tuple_rev {t sl : Addr} {items : Array Value} {vl vu vs : Value} {Q : Value → Shared → Prop} (ht : IsTup s.heap t items) (hs : s.heap.IsSliceOf sl vl vu vs) (pl : IsPart vl none) (pu : IsPart vu none) (ps : IsPart vs (some (-1)))
    (h : Q (.ref s.heap.objs.size) { s with heap := s.heap.push { cls := .type "tuple", data := .seq items.toList.reverse.toArray } })
    (hsz : items.size ≤ sizeLine) : wpAny (model prog w) A (getItem (.ref t) (.ref sl)) Q E s := by
  have htake : sizeOk (.seq items.toList.reverse.toArray) := by
    show items.toList.reverse.toArray.size ≤ sizeLine
    rw [List.size_toArray, List.length_reverse, Array.length_toList]
    exact hsz
  obtain ⟨os, hos, hcs, hds⟩ := id hs
  have hTs : s.TypeIs (.ref sl) "slice" := ⟨os, hos, hcs⟩
  unfold getItem
  try with_reducible refine wpAny_holding ?_
  first | refine wpAny_bind (wpAny_pure ?_) | skip
  refine wpAny_bind (wpAny_sequenceKey ht.typeIs (by decide) ?_)
  refine wpAny_bind (wpAny_callSpecial?_slot (name := Str.ofString "__getitem__") ht.typeIs PyProof.Rows.slot_tuple_getitem
    (wpAny_call_entry PyProof.Rows.slot_tuple_getitem ht.typeIs entry_tuple_getitem ?_ (args_tuple_getitem _ _)))
  show wpAny _ _ (Builtin.Tuple.tupleItemsOf (.ref t) >>= _) _ _ s
  refine wpAny_bind (tupleItemsOf_ ht ?_)
  refine wpAny_bind (wpAny_typeOf hTs ?_)
  rw [if_pos (by decide)]
  refine wpAny_bind (sliceApplied_rev hs pl pu ps ?_)
  have hno : ¬ ((((items.size : Int) - 1) == 0 && (-1 : Int) == 1 && items.size == items.size) = true) := by
    rw [show ((-1 : Int) == 1) = false by decide, Bool.and_false, Bool.false_and]
    exact Bool.false_ne_true
  show wpAny _ _ (if (((items.size : Int) - 1) == 0 && (-1 : Int) == 1 && items.size == items.size) = true then _ else _) _ _ s
  rw [if_neg hno, pick_rev]
  first
    | exact wpAny_bind (m := Builtin.Tuple.tupleExact _) (wpAny_newObj_type (wpAny_pure ⟨_, rfl, wpAny_pure h⟩) htake)
    | exact wpAny_bind (m := Builtin.Tuple.tupleExact _) (wpAny_newObj_type (wpAny_bind (wpAny_pure (wpAny_pure ⟨_, rfl, wpAny_pure h⟩))) htake)
    | exact wpAny_bind (wpAny_bind (m := Builtin.Tuple.tupleExact _) (wpAny_newObj_type (wpAny_pure (wpAny_pure ⟨_, rfl, wpAny_pure h⟩)) htake))
    | exact wpAny_bind (wpAny_bind (m := Builtin.Tuple.tupleExact _) (wpAny_newObj_type (wpAny_pure ⟨_, rfl, wpAny_pure h⟩) htake))
end
section
variable {X : Cx}
def tRevT (K : PySem.W.Frag) (te : TE) : TE := fun σ H Q => te σ H fun x H1 => ∃ a xs, x = .ref a ∧ SqT K H1 a xs ∧ ∀ p, H1 p = none → Q (.ref p) (upd H1 p (.tup xs.reverse))
theorem pe_revT {e : Expr} {te : TE} {k : Nat} {p1 p2 p3 pos : Pos} (he : PE X e te) : PE X (.Subscript e (.Slice none none (some (.UnaryOp .USub (.Constant (.int 1) k p1) p2)) p3) pos) (tRevT X.K te) := by
  refine ⟨fun pins s σ H Q I h => ?_⟩
  refine Subscript_ (thn (he.run pins s σ H _ I h) fun v s1 ⟨x, H1, I1, r1, q1⟩ => ?_)
  obtain ⟨a, xs, ex, hx, q⟩ := q1
  subst ex
  cases r1
  have hst : PO X (some (.UnaryOp .USub (.Constant (.int 1) k p1) p2)) (tPart (tUn (rU fun i => .int (-i)) (tC (.int 1)))) := po_some (pe_un un_neg pe_int)
  refine wpAny_Slice (thn (po_none.run pins s1 σ H1 (fun o H2 => o = none ∧ H2 = H1) I1 ⟨rfl, rfl⟩) fun vl s2 ⟨l, H2, I2, pl, el, e2⟩ => ?_)
  subst el e2
  refine thn (po_none.run pins s2 σ H2 (fun o H3 => o = none ∧ H3 = H2) I2 ⟨rfl, rfl⟩) fun vu s3 ⟨u, H3, I3, pu, eu, e3⟩ => ?_
  subst eu e3
  refine thn (hst.run pins s3 σ H3 (fun o H4 => o = some (-1) ∧ H4 = H3) I3 ⟨1, rfl, -1, rfl, rfl, rfl⟩) fun vs s4 ⟨o, H4, I4, ps, eo, e4⟩ => ?_
  subst eo e4
  have I5 : Inv X pins σ H4 { s4 with heap := s4.heap.push { cls := .type "slice", data := .fields #[vl, vu, vs] } } := I4.kept (t' := s4.toks) fun b ob q => Heap.get?_push_of_some _ q
  obtain ⟨its, r, ht, hz⟩ := I5.tuple hx
  have hlen := r.length
  show wpAny (model X.prog X.w) X.A (subscriptTail e (.Slice none none (some (.UnaryOp .USub (.Constant (.int 1) k p1) p2)) p3) (.ref a) (.ref s4.heap.objs.size)) (EP X pins σ Q) X.xe { s4 with heap := s4.heap.push { cls := .type "slice", data := .fields #[vl, vu, vs] } }
  refine tail_any (ops := [.ref a, .ref s4.heap.objs.size]) ht.typeIs (PyProof.Rows.slot_tuple_getitem.lookup) ?_ (by with_unfolding_all rfl)
  refine getItem_tuple_rev ht (Heap.IsSliceOf.new _ vl vu vs) pl pu ps ?_ (by rw [List.size_toArray]; omega)
  refine ⟨.ref _, _, I5.laid (t' := s4.toks) (o := .tup xs.reverse) (fun b ob q => Heap.get?_push_of_some _ q) (Nat.le_refl _) ?_, rfl, q _ (I5.hok.fresh (Nat.le_refl _))⟩
  exact ⟨by rw [List.length_reverse]; exact hz, _, r.reverse, IsTup.new _ _⟩
end
/-! ### t[:i] -/
theorem r_take {K : PySem.W.Frag} {H : Hp} {a : Addr} {xs : List V} {i : Int} {Q : V → Hp → Prop} (ea : H a = some (.tup xs)) (i0 : 0 ≤ i) (i1 : i ≤ (xs.length : Int)) (q : ∀ c H', Same H H' → H' c = some (.tup (xs.take i.toNat)) → Q (.ref c) H') : rSlA K (.ref a) none (some i) H Q := by
  have e : HT.sIx xs.length xs.length (some i) = i.toNat := by
    show (if i < 0 then (i + (xs.length : Int)).toNat else min i.toNat xs.length) = i.toNat
    rw [if_neg (by omega)]
    omega
  have e2 : cutV xs none (some i) = xs.take i.toNat := by
    unfold cutV
    rw [e]
    rfl
  refine ⟨a, xs, rfl, SqT.of ea, fun h => q a H same_refl ?_, fun _ p hp => q p _ (same_upd hp) ?_⟩
  · rw [e] at h
    rw [h.2, List.take_length]
    exact ea
  · rw [upd_same, e2]
/-! ### divisors below 2 ^ 64 -/
theorem divp_small {i j : Int} (hj : 0 < j) (h : j < 2 ^ 64) : CDivP i j := by
  refine ⟨hj, ?_⟩
  show (decide ((if j == 0 then 0 else j.natAbs.log2 / 30 + 1) > 300) && decide ((if i == 0 then 0 else i.natAbs.log2 / 30 + 1) > (if j == 0 then 0 else j.natAbs.log2 / 30 + 1) + 150)) = false
  rw [if_neg (show ¬ (j == 0) = true by simpa using (show j ≠ 0 by omega))]
  have l : j.natAbs.log2 < 64 := PySem.Flt.log2_lt_of (by decide) (by omega)
  rw [decide_eq_false (by omega), Bool.false_and]
/-! ### the last pair of a way -/
theorem wnum_take {us ws : List Int} {wy : List (Int × List Int)} {i : Nat} {x : Int} {p : Int × List Int} (hx : ws[i]? = some x) (hp : wy[i]? = some p) : wnum us (ws.take (i + 1)) (wy.take (i + 1)) = wnum us (ws.take i) (wy.take i) * cnt x us + fnum x us p := by
  have h1 := (List.getElem?_eq_some_iff.mp hx).1
  have h2 := (List.getElem?_eq_some_iff.mp hp).1
  rw [List.take_add_one, List.take_add_one, hx, hp]
  show wnum us (ws.take i ++ [x]) (wy.take i ++ [p]) = _
  rw [wnum_app (by rw [List.length_take, List.length_take]; omega)]
  show wnum us (ws.take i) (wy.take i) * (cnt x us * 1) + (fnum x us p * 1 + 0) = _
  rw [Int.mul_one, Int.mul_one, Int.add_zero]
theorem many_pos {us : List Int} : ∀ {ws : List Int}, (∀ x ∈ ws, 0 ≤ x) → 0 < manyW us ws → ∀ x ∈ ws, 0 < cnt x us
  | [], _, _, x, hx => by cases hx
  | y :: ws, hw, h, x, hx => by
    have y0 := cnt_nonneg (hw y List.mem_cons_self) us
    have m0 := many_nn (us := us) (ws := ws) fun z hz => hw z (List.mem_cons_of_mem _ hz)
    have h' : 0 < cnt y us * manyW us ws := h
    have hy : cnt y us ≠ 0 := fun e => by rw [e, Int.zero_mul] at h'; omega
    have hm : manyW us ws ≠ 0 := fun e => by rw [e, Int.mul_zero] at h'; omega
    rcases List.mem_cons.mp hx with rfl | hx
    · omega
    · exact many_pos (fun z hz => hw z (List.mem_cons_of_mem _ hz)) (by omega) x hx
/-! ### what is asked of anything -/
def pairT : PyData → Bool
  | .tuple ds => decide (ds.length = 2)
  | _ => false
def crateD : PyData → Bool
  | .tuple ds => decide (ds.length ≤ 60) && ds.all (wellD 13)
  | _ => false
def fitsD (us : List Int) : PyData → Bool
  | .tuple [.int t, .tuple fs] => decide (0 ≤ t) && decide (t < (us.length : Int)) && decide (us[t.toNat]? = some ((fs.length : Nat) : Int))
  | _ => false
theorem well_whole {b : Int} {d : PyData} (h : wholeD d = false) : wellD b d = false := by
  cases d <;> first | rfl | cases h
theorem fits_pair {us : List Int} {d : PyData} (h : pairT d = false) : fitsD us d = false := by
  unfold fitsD
  split
  · cases h
  · rfl
theorem fits_whole {us : List Int} {d e : PyData} (h : wellD (us.length : Int) d = false) : fitsD us (.tuple [d, e]) = false := by
  cases d <;> cases e <;> try rfl
  rename_i t fs
  have h' : (decide (0 ≤ t) && decide (t < (us.length : Int))) = false := h
  show (decide (0 ≤ t) && decide (t < (us.length : Int)) && decide (us[t.toNat]? = some ((fs.length : Nat) : Int))) = false
  rw [h', Bool.false_and]
theorem fits_snd {us : List Int} {d e : PyData} (h : tupD e = false) : fitsD us (.tuple [d, e]) = false := by
  cases d <;> cases e <;> first | rfl | cases h
theorem pair_fits {us : List Int} {x : Int} {d : PyData} (h : fitsD us d = false) : pairD us x d = false := by
  unfold pairD
  split
  · rename_i t fs
    have h' : (decide (0 ≤ t) && decide (t < (us.length : Int)) && decide (us[t.toNat]? = some ((fs.length : Nat) : Int))) = false := h
    rw [h', Bool.false_and]
  · rfl
theorem fits_shape {us : List Int} {d : PyData} (h : fitsD us d = true) : ∃ t fs, d = .tuple [.int t, .tuple fs] ∧ 0 ≤ t ∧ t < (us.length : Int) ∧ us[t.toNat]? = some ((fs.length : Nat) : Int) ∧ ∀ x, pairD us x d = fs.all (wellD x) := by
  unfold fitsD at h
  split at h
  · rename_i t fs
    have h' := h
    rw [Bool.and_eq_true, Bool.and_eq_true] at h
    refine ⟨t, fs, rfl, of_decide_eq_true h.1.1, of_decide_eq_true h.1.2, of_decide_eq_true h.2, fun x => ?_⟩
    show (decide (0 ≤ t) && decide (t < (us.length : Int)) && decide (us[t.toNat]? = some ((fs.length : Nat) : Int)) && fs.all (wellD x)) = _
    rw [h', Bool.true_and]
  · cases h
theorem crateD_ints {ws : List Int} (hl : ws.length ≤ 60) (hw : ∀ x ∈ ws, 0 ≤ x ∧ x ≤ 12) : crateD (.tuple (ws.map PyData.int)) = true := by
  show (decide ((ws.map PyData.int).length ≤ 60) && (ws.map PyData.int).all (wellD 13)) = true
  rw [List.length_map, decide_eq_true hl, Bool.true_and]
  exact wells_ints fun y hy => ⟨(hw y hy).1, by have := (hw y hy).2; omega⟩
theorem dq_ints {N : Addr → Prop} {H : Hp} {t : Addr} {ws : List Int} (e : H t = some (.tup (ws.map V.int))) : Dq N H (.ref t) (.tuple (ws.map PyData.int)) := .tup e (DqAll.ints ws)
theorem isWayD_table {ws us : List Int} {ds : List PyData} (h : ds.length = ws.length) : isWayD ws us (.tuple ds) = ((ws.zip ds).map fun p => pairD us p.1 p.2).all id := by
  cases hb : ((ws.zip ds).map fun p => pairD us p.1 p.2).all id with
  | true =>
    refine pairs_yes h fun i x d h1 h2 => ?_
    rw [List.all_map, List.all_eq_true] at hb
    exact hb (x, d) (List.mem_of_getElem? (i := i) (by rw [List.getElem?_zip_eq_some]; exact ⟨h1, h2⟩))
  | false =>
    rw [List.all_map, List.all_eq_false] at hb
    obtain ⟨⟨x, d⟩, hm, hn⟩ := hb
    obtain ⟨i, hi⟩ := List.getElem?_of_mem hm
    rw [List.getElem?_zip_eq_some] at hi
    exact pairs_no hi.1 hi.2 (Bool.eq_false_iff.mpr hn)
/-! ### a comprehension over zip of two tuples -/
theorem lc_zipT {K : PySem.W.Frag} {a b : Addr} {xs ys : List V} {g : TG} {tt : TT} {te : TE} {vs : List Nat} {σ : L2.St} {H1 : Hp} {D : Addr} {Qd : Hp → Prop} (hl : xs.length = ys.length) (Pv : Nat → Hp → Prop) (h0 : Pv 0 (upd H1 D (.lst []))) (hq : ∀ i H, Pv i H → SqT K H a xs ∧ SqT K H b ys)
    (hs : ∀ i x y T H, xs[i]? = some x → ys[i]? = some y → Pv i H → H T = none → g (.ref T) (wipe σ vs) (upd H T (.tup [x, y])) fun σ2 H2 => wipe σ2 vs = wipe σ vs ∧ tt σ2 H2 fun b H3 =>
      if b = true then te σ2 H3 fun y H4 => ∃ acc, H4 D = some (.lst acc) ∧ acc.length < sizeLine ∧ Pv (i + 1) (upd H4 D (.lst (acc ++ [y]))) else Pv (i + 1) H3) (hd : ∀ H, Pv xs.length H → Qd H) :
    ∃ W : Nat → Nat → Hp → Prop, (∃ m, W 0 m (upd H1 D (.lst []))) ∧ ∀ i m H, W i m H →
      ((RZ.ItzT K a b).stop i H ∧ Qd H) ∨ ((RZ.ItzT K a b).go i H ∧ ∃ Nx : Hp → Prop, (∀ H', Nx H' → ∃ m', m' < m ∧ W (i + 1) m' H') ∧ ∀ x H', (RZ.ItzT K a b).yld i H x H' → g x (wipe σ vs) H' fun σ2 H2 => wipe σ2 vs = wipe σ vs ∧ tt σ2 H2 fun b H3 =>
        if b = true then te σ2 H3 fun y H4 => ∃ acc, H4 D = some (.lst acc) ∧ acc.length < sizeLine ∧ Nx (upd H4 D (.lst (acc ++ [y]))) else Nx H3) := by
  refine ⟨fun i m H => m = xs.length - i ∧ i ≤ xs.length ∧ Pv i H, ⟨xs.length, by simp, Nat.zero_le _, h0⟩, ?_⟩
  rintro i m H ⟨rfl, hi, p⟩
  obtain ⟨qx, qy⟩ := hq i H p
  by_cases hlt : i < xs.length
  · have hx : xs[i]? = some xs[i] := List.getElem?_eq_getElem hlt
    have hlt2 : i < ys.length := by omega
    have hy : ys[i]? = some ys[i] := List.getElem?_eq_getElem hlt2
    refine .inr ⟨⟨xs, ys, _, _, qx, qy, hx, hy⟩, Pv (i + 1), fun H' p' => ⟨xs.length - (i + 1), by omega, rfl, hlt, p'⟩, fun v H' y => ?_⟩
    obtain ⟨T, x', y', rfl, hT, rfl, f1, f2⟩ := y
    exact hs i x' y' T H (f1 xs qx) (f2 ys qy) p hT
  · have e : i = xs.length := by omega
    subst e
    exact .inl ⟨⟨xs, ys, qx, qy, Or.inl (Nat.le_refl _)⟩, hd H p⟩
theorem told_sc {p l : Addr} {H : Hp} (S : Sc p l H) : Told (fun c => c = p ∨ c = l) H := by
  obtain ⟨_, ns, a, b, e1, e2, _⟩ := S
  intro c hc h
  rcases hc with rfl | rfl
  · rw [e1] at h
    cases h
  · rw [e2] at h
    cases h
/-! ### things taken by wells -/
def pickV (xs : List V) (ys : List Int) : List V := ys.map fun y => xs.getD y.toNat .non
theorem pickV_len (xs : List V) (ys : List Int) : (pickV xs ys).length = ys.length := List.length_map ..
theorem pickV_get {xs : List V} {y : Int} (h0 : 0 ≤ y) (h1 : y < (xs.length : Int)) : xs[y.toNat]? = some (xs.getD y.toNat .non) := by
  have hl : y.toNat < xs.length := by omega
  rw [List.getD_eq_getElem?_getD, List.getElem?_eq_getElem hl]
  rfl
theorem pickV_at {xs : List V} {y : Int} (h0 : 0 ≤ y) (h1 : y < (xs.length : Int)) : atI xs y = some (xs.getD y.toNat .non) := at_of (j := y.toNat) (by omega) (pickV_get h0 h1)
theorem pickV_mem {xs : List V} {ys : List Int} (h : Below (xs.length : Int) ys) {v : V} (hv : v ∈ pickV xs ys) : v ∈ xs := by
  obtain ⟨y, hy, rfl⟩ := List.mem_map.mp hv
  obtain ⟨h0, h1⟩ := h y hy
  exact List.mem_of_getElem? (pickV_get h0 h1)
theorem pickV_ints {r ys : List Int} (h : Below (r.length : Int) ys) : pickV (r.map V.int) ys = (ys.map (pick r)).map V.int := by
  unfold pickV
  rw [List.map_map]
  refine List.map_congr_left fun y hy => ?_
  obtain ⟨h0, h1⟩ := h y hy
  show (r.map V.int).getD y.toNat .non = V.int (r.getD y.toNat 0)
  have hl : y.toNat < r.length := by omega
  rw [List.getD_eq_getElem?_getD, List.getD_eq_getElem?_getD, List.getElem?_map, List.getElem?_eq_getElem hl]
  rfl
/-- what a way makes of a filling of anything -/
def spTurned : Sp := fun vs H Q _ => ∃ (wv f c : Addr) (s : Int) (xs : List V) (wy : List (Int × List Int)) (p : Int × List Int), vs = [.ref wv, .ref f] ∧ Way H wv wy ∧ H f = some (.tup [.int s, .ref c]) ∧ H c = some (.tup xs) ∧ 0 ≤ s ∧ wy[s.toNat]? = some p ∧ Below (xs.length : Int) p.2 ∧ p.2.length ≤ 900 ∧
  ∀ a b H', Same H H' → H a = none → H' a = some (.tup [.int p.1, .ref b]) → H' b = some (.tup (pickV xs p.2)) → Q (.ref a) H'
theorem dp_bools {K : PySem.W.Frag} {H : Hp} {a : Addr} {x y z : Bool} (e : H a = some (.lst [.bl x, .bl y, .bl z])) : Dp K H (.ref a) (.list [.bool x, .bool y, .bool z]) := .lst (SqL.of e) (.cons (.bl x) (.cons (.bl y) (.cons (.bl z) .nil)))
theorem shaped_bools (x y z : Bool) : SeqAt.shaped (.list [.bool x, .bool y, .bool z]) = true := by
  unfold SeqAt.shaped
  simp [PyData.canLay0, PyData.canLayAll0, PyData.depth, PyData.depthAll]
theorem eqv_bools (x y z : Bool) : PyData.eqv (.list [.bool x, .bool y, .bool z]) (.list [.bool x, .bool y, .bool z]) = true := by
  simp [PyData.eqv, PyData.eqvAll]
/-- the suite of a law's except: e, odd and refused by their slots -/
def tsErr (K : PySem.W.Frag) (C c1 c2 c3 c4 c5 c6 : Addr) (se so sr : Nat) : Addr → Value → Option Addr → TS := fun a cls d =>
  tSeq (tAsg (tCB (rIsXT K C a cls d) (tCons (tVar se) (tCons (tTup (tCons (tC (.ref c1)) (tCons (tC (.ref c2)) (tCons (tC (.ref c3)) (tCons (tC (.ref c4)) (tCons (tC (.ref c5)) (tCons (tC (.ref c6)) tNil))))))) tNil))) (gName so))
    (tAsg (tLst (tCons (tCB (rIsX K C a cls d) (tCons (tVar se) (tCons (tC (.ref C)) tNil))) (tCons (tCB (rIsX K C a cls d) (tCons (tVar se) (tCons (tC (.ty "ValueError")) tNil))) (tCons (tVar so) tNil)))) (gName sr))
/-! ### t[1:] -/
theorem r_tail {K : PySem.W.Frag} {σ : L2.St} {H : Hp} {a : Addr} {xs : List V} {Q : V → Hp → Prop} (ea : H a = some (.tup xs)) (q : ∀ c H', Same H H' → H' c = some (.tup (xs.drop 1)) → Q (.ref c) H') : tNoPart σ H (fun u H3 => rSlA K (.ref a) (some 1) u H3 Q) := by
  have e1 : HT.sIx xs.length 0 (some (1 : Int)) = min 1 xs.length := HT.sIx_nat xs.length 0 1
  have e2 : cutV xs (some 1) none = xs.drop 1 := by
    unfold cutV
    rw [e1, HT.sIx_none]
    cases xs with
    | nil => rfl
    | cons x r =>
      rw [show min 1 (x :: r).length = 1 by simp]
      exact List.take_of_length_le (by simp)
  refine ⟨a, xs, rfl, SqT.of ea, fun h => q a H same_refl ?_, fun _ p hp => q p _ (same_upd hp) ?_⟩
  · rw [e1] at h
    cases xs with
    | nil => exact ea
    | cons x r => simp at h
  · rw [upd_same, e2]
/-! ### lists of ways -/
def Ways (H : Hp) (xs : List V) (wys : List (List (Int × List Int))) : Prop := xs.length = wys.length ∧ ∀ (i : Nat) (x : V) (w : List (Int × List Int)), xs[i]? = some x → wys[i]? = some w → ∃ a, x = .ref a ∧ Way H a w
theorem Ways.keep {H H' : Hp} {xs : List V} {wys : List (List (Int × List Int))} (h : Ways H xs wys) (k : KeepT H H') : Ways H' xs wys := ⟨h.1, fun i x w h1 h2 => by
  obtain ⟨a, e, q⟩ := h.2 i x w h1 h2
  exact ⟨a, e, q.keep k⟩⟩
theorem Ways.push {H : Hp} {xs : List V} {wys : List (List (Int × List Int))} {a : Addr} {w : List (Int × List Int)} (h : Ways H xs wys) (e : Way H a w) : Ways H (xs ++ [.ref a]) (wys ++ [w]) := by
  refine ⟨by rw [List.length_append, List.length_append, h.1]; rfl, fun i x v h1 h2 => ?_⟩
  by_cases hi : i < xs.length
  · rw [List.getElem?_append_left hi] at h1
    rw [List.getElem?_append_left (by rw [← h.1]; exact hi)] at h2
    exact h.2 i x v h1 h2
  · have hlt : i < (xs ++ [V.ref a]).length := (List.getElem?_eq_some_iff.mp h1).1
    rw [List.length_append] at hlt
    have ei : i = xs.length := by
      have : ([V.ref a] : List V).length = 1 := rfl
      omega
    subst ei
    rw [List.getElem?_append_right (Nat.le_refl _), Nat.sub_self] at h1
    rw [h.1, List.getElem?_append_right (Nat.le_refl _), Nat.sub_self] at h2
    cases h1
    cases h2
    exact ⟨a, rfl, e⟩
theorem dq_ways {N : Addr → Prop} {H : Hp} : ∀ {xs : List V} {wys : List (List (Int × List Int))}, Ways H xs wys → DqAll N H xs (wys.map dWay)
  | [], [], _ => .nil
  | [], w :: wys, h => by have := h.1; simp at this
  | x :: xs, [], h => by have := h.1; simp at this
  | x :: xs, w :: wys, h => by
    obtain ⟨a, rfl, q⟩ := h.2 0 x w rfl rfl
    exact .cons (dq_way q) (dq_ways ⟨by have := h.1; simpa using this, fun i y v h1 h2 => h.2 (i + 1) y v h1 h2⟩)
theorem flat_way (wy : List (Int × List Int)) : Flat 4 (dWay wy) := ⟨by
  rw [show PyData.canLay0 (dWay wy) = PyData.canLayAll0 (wy.map dPair) by simp only [dWay, PyData.canLay0]]
  exact canLay_pairs wy, by
  have := depth_pairs wy
  rw [show PyData.depth (dWay wy) = PyData.depthAll (wy.map dPair) + 1 by simp only [dWay, PyData.depth]]
  omega⟩
theorem shaped_ways (wys : List (List (Int × List Int))) : SeqAt.shaped (.list (wys.map dWay)) = true := (flat_lst (n := 4) (flatL_of fun d hd => by
  obtain ⟨w, _, rfl⟩ := List.mem_map.mp hd
  exact flat_way w)).shaped (by decide)
theorem eqv_ways0 : ∀ wys : List (List (Int × List Int)), PyData.eqv (.list (wys.map dWay)) (.list []) = wys.isEmpty
  | [] => by simp [PyData.eqv, PyData.eqvAll]
  | n :: r => by simp [PyData.eqv, PyData.eqvAll]
theorem shaped_nil : SeqAt.shaped (.list []) = true := shaped_ints []
/-! ### a filling of numbers turned -/
theorem turned_fill {us vs : List Int} {w : List (Int × List Int)} {x : Int} {p : Int × List Int} (okW : WayOk us vs w) (fp : FillOk x us p) (hv : ∀ v ∈ vs, 0 ≤ v ∧ v ≤ 12) : ∃ r, w[p.1.toNat]? = some r ∧ Below ((p.2.map V.int).length : Int) r.2 ∧ r.2.length ≤ 900 ∧ stepW w p = (r.1, r.2.map (pick p.2)) ∧ pickV (p.2.map V.int) r.2 = (r.2.map (pick p.2)).map V.int := by
  obtain ⟨r, gr, fr⟩ := way_at okW fp
  refine ⟨r, gr, ?_, ?_, step_some gr, pickV_ints fr.2.2.2⟩
  · rw [List.length_map]
    exact fr.2.2.2
  · have := hv _ (List.mem_of_getElem? fr.2.2.1)
    omega
theorem plain_fill {ws : List Int} {i : Nat} {x : Int} (hw : ∀ x ∈ ws, 0 ≤ x) (g : ws[i]? = some x) : FillOk x ws ((i : Int), iota x) := by
  have := (idle_ok hw).2 i _ x (idle_get g) g
  exact this
theorem eqv_pairL (a b : List (Int × List Int)) : PyData.eqv (.list (a.map dPair)) (.list (b.map dPair)) = decide (a = b) := by
  rw [show PyData.eqv (.list (a.map dPair)) (.list (b.map dPair)) = PyData.eqvAll (a.map dPair) (b.map dPair) by simp only [PyData.eqv]]
  exact eqv_pairs a b
theorem flat_pair (p : Int × List Int) : Flat 3 (dPair p) := flat_tup (n := 2) (flatL_cons (flat_int _) (flatL_cons (flat_tup (n := 1) (flatL_ints _)) flatL_nil))
theorem shaped_pairL (a : List (Int × List Int)) : SeqAt.shaped (.list (a.map dPair)) = true := (flat_lst (n := 3) (flatL_of fun d hd => by
  obtain ⟨w, _, rfl⟩ := List.mem_map.mp hd
  exact flat_pair w)).shaped (by decide)
theorem shaped_pair (p : Int × List Int) : SeqAt.shaped (dPair p) = true := (flat_pair p).shaped (by decide)
theorem then_idle_get {ws us : List Int} {v : List (Int × List Int)} (hv : WayOk ws us v) {i : Nat} {x : Int} (g : ws[i]? = some x) : v[i]? = some (stepW v ((i : Int), iota x)) := by
  have h := then_get (w := v) (idle_get g)
  rw [idle_then hv] at h
  exact h
/-! ### read_off -/
/-- of what is a way -/
def spReadOk : Sp := fun vs H Q _ => ∃ (t1 t2 a : Addr) (ws us : List Int) (xs : List V) (wy : List (Int × List Int)), vs = [.ref t1, .ref t2, .ref a] ∧ H t1 = some (.tup (ws.map V.int)) ∧ H t2 = some (.tup (us.map V.int)) ∧ H a = some (.lst xs) ∧ ws.length ≤ 900 ∧ (∀ u ∈ us, u ≤ 900) ∧ Pairs H xs wy ∧ WayOk ws us wy ∧ ∀ b H', Same H H' → Way H' b wy → Q (.ref b) H'
/-- of any list -/
def spRead (C : Addr) : Sp := fun vs H Q E => ∃ (N : Addr → Prop) (t1 t2 a : Addr) (ws us : List Int) (xs : List V) (ds : List PyData), vs = [.ref t1, .ref t2, .ref a] ∧ H t1 = some (.tup (ws.map V.int)) ∧ H t2 = some (.tup (us.map V.int)) ∧ H a = some (.lst xs) ∧ ws.length ≤ 900 ∧ (∀ u ∈ us, u ≤ 900) ∧ DqAll N H xs ds ∧ (isWayD ws us (.tuple ds) = false → ∀ H', Same H H' → E (.ref C) none H') ∧ (isWayD ws us (.tuple ds) = true → ∀ b H', Same H H' → H' b = some (.tup xs) → Q (.ref b) H')
/-- whole numbers that rise within as many places -/
theorem rising_eq : ∀ (l : List Int) (lo : Int), l.Pairwise (· < ·) → (∀ x ∈ l, lo ≤ x ∧ x < lo + (l.length : Int)) → ∀ (j : Nat) (x : Int), l[j]? = some x → x = lo + (j : Int)
  | [], _, _, _, j, x, h => by simp at h
  | y :: r, lo, hp, hb, j, x, h => by
    rw [List.pairwise_cons] at hp
    have hy := hb y List.mem_cons_self
    have hl : (((y :: r).length : Nat) : Int) = (r.length : Int) + 1 := by simp
    have ih := rising_eq r (lo + 1) hp.2 fun z hz => by
      have h1 := hp.1 z hz
      have h2 := hb z (List.mem_cons_of_mem _ hz)
      omega
    have ey : y = lo := by
      cases r with
      | nil =>
        have : ((([y] : List Int).length : Nat) : Int) = 1 := rfl
        omega
      | cons z r' =>
        have h1 := ih 0 z rfl
        have h2 := hp.1 z List.mem_cons_self
        omega
    cases j with
    | zero =>
      cases h
      rw [ey]
      simp
    | succ j =>
      have := ih j x h
      omega
theorem fills_num {n : Nat} {us : List Int} (hu : ∀ x ∈ us, 0 ≤ x ∧ x ≤ 12) {j : Nat} {p : Int × List Int} (h : (fills n us us.length)[j]? = some p) : FillOk (n : Int) us p ∧ fnum (n : Int) us p = (j : Int) := by
  have fok : ∀ q ∈ fills n us us.length, FillOk (n : Int) us q := fun q hq => fills_mem (Nat.le_refl _) hu hq
  refine ⟨fok p (List.mem_of_getElem? h), ?_⟩
  have hl := fills_len (n := n) (ws := us) (i := us.length) (Nat.le_refl _)
  rw [List.take_length] at hl
  have hs := fills_sorted n us us.length
  have hp : ((fills n us us.length).map (fnum (n : Int) us)).Pairwise (· < ·) := by
    rw [List.pairwise_map]
    refine hs.imp_of_mem fun {a b} ha hb hab => ?_
    exact fnum_lt (by omega) (fok a ha) (fok b hb) hab
  have := rising_eq _ 0 hp (fun x hx => by
    obtain ⟨q, hq, rfl⟩ := List.mem_map.mp hx
    have := fnum_bound (n := (n : Int)) (by omega) (fok q hq)
    rw [List.length_map]
    omega) j (fnum (n : Int) us p) (by rw [List.getElem?_map, h]; rfl)
  omega
theorem one_way {n : Int} {us : List Int} {p : Int × List Int} (h : FillOk n us p) : WayOk [n] us [p] := wayOk_cons.mpr ⟨h, ⟨rfl, fun i p x h1 _ => by simp at h1⟩⟩
theorem one_num (n : Int) (us : List Int) (p : Int × List Int) : wnum us [n] [p] = fnum n us p := by
  show fnum n us p * 1 + 0 = _
  omega
theorem one_many (n : Int) (us : List Int) : manyW us [n] = cnt n us := by
  show cnt n us * 1 = _
  omega
theorem one_pairs {H : Hp} {a b : Addr} {p : Int × List Int} (e : H a = some (.tup [.int p.1, .ref b])) (e2 : H b = some (.tup (p.2.map V.int))) : Pairs H [.ref a] [p] := ⟨rfl, fun i x q h1 h2 => by
  cases i with
  | zero =>
    cases h1
    cases h2
    exact ⟨a, b, rfl, e, e2⟩
  | succ i => simp at h1⟩
theorem cnt4 {n : Int} {us : List Int} (n0 : 0 ≤ n) (n1 : n ≤ 4) (hu : ∀ x ∈ us, 0 ≤ x ∧ x ≤ 3) (hl : us.length ≤ 4) : cnt n us ≤ 256 := by
  have key : ∀ (us : List Int), (∀ x ∈ us, 0 ≤ x ∧ x ≤ 3) → cnt n us ≤ 64 * (us.length : Int) := by
    intro us
    induction us with
    | nil => intro _; exact Int.le_refl 0
    | cons x r ih =>
      intro h
      have h1 := ih fun y hy => h y (List.mem_cons_of_mem _ hy)
      have hx := h x List.mem_cons_self
      have e : cnt n (x :: r) = n ^ x.toNat + cnt n r := by
        unfold cnt
        simp
      have hp : n ^ x.toNat ≤ 64 := by
        have : x.toNat ≤ 3 := by omega
        have h3 : x.toNat = 0 ∨ x.toNat = 1 ∨ x.toNat = 2 ∨ x.toNat = 3 := by omega
        have hn : n = 0 ∨ n = 1 ∨ n = 2 ∨ n = 3 ∨ n = 4 := by omega
        rcases h3 with h | h | h | h <;> rcases hn with h' | h' | h' | h' | h' <;> rw [h, h'] <;> decide
      rw [e, List.length_cons]
      push_cast
      omega
  have := key us hu
  omega
theorem pickV_plain {n : Int} {r : List Int} (h : Below n r) (h0 : 0 ≤ n) : pickV ((iota n).map V.int) r = r.map V.int := by
  rw [pickV_ints (by rw [iota_len]; intro y hy; have := h y hy; omega)]
  congr 1
  refine (List.map_congr_left fun y hy => ?_).trans (List.map_id _)
  exact pick_iota (h y hy).1 (h y hy).2
def topS (i : Nat) : Stmt := PySem.Challenge.pw_traymap_k17_whole_ways_of_one_tray.main.body.getD i (.Pass ⟨0, 0, 0, 0⟩)
abbrev sTray : Stmt := topS 7
abbrev sMany : Stmt := topS 8
abbrev sManyW : Stmt := topS 13
abbrev sThings : Stmt := topS 14
abbrev sFillAt : Stmt := topS 15
abbrev sPlaceOf : Stmt := topS 16
abbrev sWayAt : Stmt := topS 17
abbrev sNumOf : Stmt := topS 18
abbrev sRise : Stmt := topS 9
abbrev sAll : Stmt := topS 10
abbrev sPlain : Stmt := topS 11
abbrev sTurned : Stmt := topS 27
abbrev sRead : Stmt := topS 29
abbrev sIsWhole : Stmt := topS 20
abbrev sBelow : Stmt := topS 21
abbrev sIsPair : Stmt := topS 22
abbrev sFits : Stmt := topS 23
abbrev sLeads : Stmt := topS 25
abbrev sTable : Stmt := topS 26
abbrev sSource : Stmt := topS 31
abbrev sNext : Stmt := topS 32
abbrev sLaw : Stmt := topS 33
theorem scTray : FnScope ["wells", "number", "choices", "many", "well"] ["wells", "number"] (defScope sTray) := ⟨rfl, rfl, rfl, by decide +kernel, rfl, by decide +kernel, by decide +kernel⟩
theorem scMany : FnScope ["crate", "number", "wells"] ["crate", "number"] (defScope sMany) := ⟨rfl, rfl, rfl, by decide +kernel, rfl, by decide +kernel, by decide +kernel⟩
theorem scManyW : FnScope ["one", "other", "many", "wells"] ["one", "other"] (defScope sManyW) := ⟨rfl, rfl, rfl, by decide +kernel, rfl, by decide +kernel, by decide +kernel⟩
theorem scThings : FnScope ["wells", "number", "place", "things", "well", "thing"] ["wells", "number", "place"] (defScope sThings) := ⟨rfl, rfl, rfl, by decide +kernel, rfl, by decide +kernel, by decide +kernel⟩
theorem scFillAt : FnScope ["crate", "number", "place", "tray"] ["crate", "number", "place"] (defScope sFillAt) := ⟨rfl, rfl, rfl, by decide +kernel, rfl, by decide +kernel, by decide +kernel⟩
theorem scPlaceOf : FnScope ["crate", "number", "filling", "tray", "things", "place", "thing"] ["crate", "number", "filling"] (defScope sPlaceOf) := ⟨rfl, rfl, rfl, by decide +kernel, rfl, by decide +kernel, by decide +kernel⟩
theorem scWayAt : FnScope ["one", "other", "number", "pairs", "wells", "place"] ["one", "other", "number"] (defScope sWayAt) := ⟨rfl, rfl, rfl, by decide +kernel, rfl, by decide +kernel, by decide +kernel⟩
theorem scNumOf : FnScope ["one", "other", "way", "number", "wells", "pair"] ["one", "other", "way"] (defScope sNumOf) := ⟨rfl, rfl, rfl, by decide +kernel, rfl, by decide +kernel, by decide +kernel⟩
theorem scRise : FnScope ["wells", "number", "rows", "well", "row", "thing"] ["wells", "number"] (defScope sRise) := ⟨rfl, rfl, rfl, by decide +kernel, rfl, by decide +kernel, by decide +kernel⟩
theorem scAll : FnScope ["crate", "number", "fillings", "tray", "wells", "things"] ["crate", "number"] (defScope sAll) := ⟨rfl, rfl, rfl, by decide +kernel, rfl, by decide +kernel, by decide +kernel⟩
theorem scPlain : FnScope ["crate", "tray"] ["crate", "tray"] (defScope sPlain) := ⟨rfl, rfl, rfl, by decide +kernel, rfl, by decide +kernel, by decide +kernel⟩
theorem scTurned : FnScope ["way", "filling", "source", "things", "tray", "wells", "well"] ["way", "filling"] (defScope sTurned) := ⟨rfl, rfl, rfl, by decide +kernel, rfl, by decide +kernel, by decide +kernel⟩
theorem scRead : FnScope ["one", "other", "told", "way"] ["one", "other", "told"] (defScope sRead) := ⟨rfl, rfl, rfl, by decide +kernel, rfl, by decide +kernel, by decide +kernel⟩
theorem scIsWhole : FnScope ["thing"] ["thing"] (defScope sIsWhole) := ⟨rfl, rfl, rfl, by decide +kernel, rfl, by decide +kernel, by decide +kernel⟩
theorem scBelow : FnScope ["thing", "bound"] ["thing", "bound"] (defScope sBelow) := ⟨rfl, rfl, rfl, by decide +kernel, rfl, by decide +kernel, by decide +kernel⟩
theorem scIsPair : FnScope ["thing"] ["thing"] (defScope sIsPair) := ⟨rfl, rfl, rfl, by decide +kernel, rfl, by decide +kernel, by decide +kernel⟩
theorem scFits : FnScope ["crate", "thing", "tray", "things"] ["crate", "thing"] (defScope sFits) := ⟨rfl, rfl, rfl, by decide +kernel, rfl, by decide +kernel, by decide +kernel⟩
theorem scLeads : FnScope ["wells", "other", "thing", "well"] ["wells", "other", "thing"] (defScope sLeads) := ⟨rfl, rfl, rfl, by decide +kernel, rfl, by decide +kernel, by decide +kernel⟩
theorem scTable : FnScope ["one", "other", "thing", "wells", "pair"] ["one", "other", "thing"] (defScope sTable) := ⟨rfl, rfl, rfl, by decide +kernel, rfl, by decide +kernel, by decide +kernel⟩
theorem scSource : FnScope ["script", "seed", "cell"] ["script"] (defScope sSource) := ⟨rfl, rfl, rfl, by decide +kernel, rfl, by decide +kernel, by decide +kernel⟩
theorem scNext : FnScope ["source", "many", "cell", "drawn"] ["source", "many"] (defScope sNext) := ⟨rfl, rfl, rfl, by decide +kernel, rfl, by decide +kernel, by decide +kernel⟩
theorem scLaw : FnScope ["script", "source", "crate", "wells", "listed", "many", "number", "filling", "k"] ["script"] (defScope sLaw) := ⟨rfl, rfl, rfl, by decide +kernel, rfl, by decide +kernel, by decide +kernel⟩
section
variable {P : Program} {w : World} {K : PySem.W.Frag} {mg : Str → Option Value} {base : Heap}
/-! ### _law_next -/
def spNext : Sp := fun vs H Q _ => ∃ (p l : Addr) (m : Int), vs = [.ref p, .int m] ∧ Sc p l H ∧ 0 < m ∧ m.natAbs.log2 < 9000 ∧ ∀ r H', 0 ≤ r → r < m → Sc p l H' → Kp p l H H' → Q (.int r) H'
theorem ok_next {f : Addr} {fd : FuncData} {k : Nat} (F : Fun K "_law_next" "_law_next" sNext f fd) (mabs : mg "abs" = none) : FnOk P w K mg base CX0 (k + 1) f fd ["source", "many"] spNext := by
  refine F.ok scNext (fun vs H Q E h => ?_) (fun cdv A outer s H vs Q E hr h => ?_)
  · obtain ⟨p, l, m, rfl, _⟩ := h
    rfl
  · obtain ⟨p, l, m, rfl, hS, hm, hw, q⟩ := h
    refine ⟨_, C8.pss_cut (ps_if (PW.pt (pw_and (pt_cmpR op_eq (pe_ix ix_list (pv 0) pe_int (fun _ _ => rfl)) pe_int (nomark _)) (pw_and1 (pt_cmpR (op_neD hr.units) (pe_ix ix_list (pv 0) pe_int (fun _ _ => rfl)) (pe_lst pa_nil) (nomark _)))))
        (pss_cons (ps_set (i := 2) scNext.nd rfl (.inl rfl) (pe_bm PySem.F.plainAttrs_list PySem.F.slot_list_pop PySem.F.type_list_pop mt_popAt (pe_ix ix_list (pv 0) pe_int (fun _ _ => rfl)) (pa_cons pe_int pa_nil)))
        (pss_cons (ps_if (pt_cmpR op_lt (pe_callB call_abs (by rfl) mabs (by decide +kernel) (pa_cons (pv 2) pa_nil)) (pe_op op_pow pe_int pe_int) (nomark _)) (pss_one (ps_ret (pe_op op_mod (pv 2) (pv 1)))) pss_nil)
        (pss_one (ps_asg (pe_callB call_abs (by rfl) mabs (by decide +kernel) (pa_cons (pv 2) pa_nil)) (pg_sub (pv 0) pe_int set_list)))))
        pss_nil)
      (pss_cons (ps_if (pt_cmpR op_gt (pe_ix ix_list (pv 0) pe_int (fun _ _ => rfl)) pe_int (nomark _))
          (pss_cons (ps_set (i := 3) scNext.nd rfl (.inl rfl) (pe_op op_mod (pe_ix ix_list (pv 0) pe_int (fun _ _ => rfl)) (pv 1)))
          (pss_cons (ps_asg (pe_op op_fdivW (pe_ix ix_list (pv 0) pe_int (fun _ _ => rfl)) (pv 1)) (pg_sub (pv 0) pe_int set_list))
          (pss_one (ps_ret (pv 3))))) pss_nil)
      (pss_cons (ps_asg (pe_op op_mod (pe_op op_add (pe_op op_mul (pe_ix ix_list (pv 0) pe_int (fun _ _ => rfl)) (pe_ix ix_list (pv 0) pe_int (fun _ _ => rfl))) pe_int) pe_int) (pg_sub (pv 0) pe_int set_list))
      (pss_one (ps_ret (pe_op op_mod (pe_op op_fdiv (pe_ix ix_list (pv 0) pe_int (fun _ _ => rfl)) pe_int) (pv 1)))))), ?_⟩
    refine ⟨fun σ' H' => ∃ c2 c3, σ' = [some (.ref p), some (.int m), c2, c3] ∧ Sc p l H' ∧ Kp p l H H', ?_, fun σ' H' hM => ?_⟩
    · obtain ⟨npl, ns, a, b, hp, hl, ha, hb, hb2⟩ := hS
      -- source[1] == 0
      refine ⟨.ref p, rfl, p, _, 1, .int a, rfl, rfl, SqL.of hp, atI_nat (j := 1) rfl, rfl, _, rfl, ?_⟩
      by_cases e1 : ¬ a = 0
      · rw [decide_eq_false (show ¬ (V.int a = V.int 0) from fun z => e1 (V.int.inj z))]
        refine iteF (iteF ?_)
        exact ⟨_, _, rfl, ⟨npl, ns, a, b, hp, hl, ha, hb, hb2⟩, Kp.refl H⟩
      · have e1 : a = 0 := Decidable.of_not_not e1
        subst e1
        rw [decide_eq_true (show V.int 0 = V.int 0 from rfl)]
        refine iteT ?_
        -- source[0] != []
        refine ⟨.ref p, rfl, p, _, 0, .ref l, rfl, rfl, SqL.of hp, atI_nat (j := 0) rfl, Nat.zero_le _, fun e he => ?_⟩
        have hp1 : (upd H e (.lst [])) p = some (.lst [.ref l, .int 0, .int b]) := same_upd he _ _ hp
        have hl1 : (upd H e (.lst [])) l = some (.lst (ns.map V.int)) := same_upd he _ _ hl
        refine ⟨.list (ns.map PyData.int), .list [], .lst (SqL.of hl1) (dpAll_int ns), .lst (SqL.of upd_same) .nil, shaped_ints ns, shaped_ints [], _, rfl, ?_⟩
        rw [eqv_nil]
        cases ns with
        | nil =>
          refine iteF ?_
          exact ⟨_, _, rfl, ⟨npl, [], 0, b, hp1, hl1, ha, hb, hb2⟩, (Kp.refl H).upd he⟩
        | cons n r =>
          refine iteT ?_
          -- cell = source[0].pop(0)
          refine ⟨.ref p, rfl, p, _, 0, .ref l, rfl, rfl, SqL.of hp1, atI_nat (j := 0) rfl, .inl ⟨rfl, _, SqL.of hl1⟩, l, _, 0, 0, .int n, rfl, rfl, hl1, by decide, by decide, ?_, rfl, ?_⟩
          · unfold seqIndex?
            simp
          · -- abs(cell) < 10 ** 18
            have hp2 : (upd (upd H e (.lst [])) l (.lst (((n :: r).map V.int).eraseIdx 0))) p = some (.lst [.ref l, .int 0, .int b]) := by
              rw [upd_ne npl]
              exact hp1
            have hl2 : (upd (upd H e (.lst [])) l (.lst (((n :: r).map V.int).eraseIdx 0))) l = some (.lst (r.map V.int)) := upd_same
            have k2 : Kp p l H (upd (upd H e (.lst [])) l (.lst (((n :: r).map V.int).eraseIdx 0))) := ((Kp.refl H).upd he).updl
            refine ⟨.int n, rfl, n, rfl, _, _, rfl, rfl, ⟨by decide, by decide, by decide⟩, _, _, rfl, rfl, _, rfl, ite2 (fun _ => ?_) (fun _ => ?_)⟩
            · refine ⟨.int n, rfl, .int m, rfl, n, m, rfl, rfl, hm, ?_⟩
              exact q _ _ (Int.emod_nonneg _ (by omega)) (Int.emod_lt_of_pos _ hm) ⟨npl, r, 0, b, hp2, hl2, ha, hb, hb2⟩ k2
            · -- source[1] = abs(cell)
              refine ⟨.int n, rfl, n, rfl, .ref p, rfl, p, _, 1, 1, rfl, rfl, hp2, rfl, ?_⟩
              refine ⟨_, _, rfl, ⟨npl, r, if n < 0 then -n else n, b, upd_same, ?_, ?_, hb, hb2⟩, k2.updp⟩
              · rw [upd_ne npl.symm]
                exact hl2
              · split <;> omega
    · -- the rest
      obtain ⟨c2, c3, rfl, ⟨npl, ns, a, b, hp, hl, ha, hb, hb2⟩, k1⟩ := hM
      refine ⟨.ref p, rfl, p, _, 1, .int a, rfl, rfl, SqL.of hp, atI_nat (j := 1) rfl, _, _, rfl, rfl, _, rfl, ite2 (fun e => ?_) (fun e => ?_)⟩
      · -- drawn = source[1] % many
        refine ⟨.ref p, rfl, p, _, 1, .int a, rfl, rfl, SqL.of hp, atI_nat (j := 1) rfl, .int m, rfl, a, m, rfl, rfl, hm, ?_⟩
        -- source[1] = source[1] // many
        refine ⟨.ref p, rfl, p, _, 1, .int a, rfl, rfl, SqL.of hp, atI_nat (j := 1) rfl, .int m, rfl, a, m, rfl, rfl, ⟨hm, hw⟩, .ref p, rfl, p, _, 1, 1, rfl, rfl, hp, rfl, ?_⟩
        refine ⟨_, rfl, ?_⟩
        refine q _ _ (Int.emod_nonneg _ (by omega)) (Int.emod_lt_of_pos _ hm) ⟨npl, ns, a / m, b, upd_same, ?_, Int.ediv_nonneg ha (by omega), hb, hb2⟩ k1.updp
        rw [upd_ne npl.symm]
        exact hl
      · -- source[2] = (source[2] * source[2] + 1000003) % 998244353
        refine ⟨.ref p, rfl, p, _, 2, .int b, rfl, rfl, SqL.of hp, atI_nat (j := 2) rfl, .ref p, rfl, p, _, 2, .int b, rfl, rfl, SqL.of hp, atI_nat (j := 2) rfl, b, b, rfl, rfl, .inl ⟨by omega, by omega⟩, _, _, rfl, rfl, _, 998244353, rfl, rfl, (show (0 : Int) < 998244353 by decide), .ref p, rfl, p, _, 2, 2, rfl, rfl, hp, rfl, ?_⟩
        have hp3 : (upd H' p (.lst [.ref l, .int a, .int ((b * b + 1000003) % 998244353)])) p = some (.lst [.ref l, .int a, .int ((b * b + 1000003) % 998244353)]) := upd_same
        refine ⟨.ref p, rfl, p, _, 2, .int ((b * b + 1000003) % 998244353), rfl, rfl, SqL.of hp3, atI_nat (j := 2) rfl, _, _, rfl, rfl, ⟨by decide, by decide⟩, .int m, rfl, _, m, rfl, rfl, hm, ?_⟩
        refine q _ _ (Int.emod_nonneg _ (by omega)) (Int.emod_lt_of_pos _ hm) ⟨npl, ns, a, (b * b + 1000003) % 998244353, hp3, ?_, ha, by omega, by omega⟩ k1.updp
        rw [upd_ne npl.symm]
        exact hl
/-! ### _law_source -/
def spSource (K : PySem.W.Frag) : Sp := fun vs H Q _ => ∃ (a : Addr) (ns : List Int), vs = [.ref a] ∧ SqL K H a (ns.map V.int) ∧ ∀ p l H', Same H H' → H p = none → H l = none → Sc p l H' → Q (.ref p) H'
theorem ok_source {f : Addr} {fd : FuncData} {k : Nat} (F : Fun K "_law_source" "_law_source" sSource f fd) (ml : mg "list" = none) : FnOk P w K mg base CX0 (k + 1) f fd ["script"] (spSource K) := by
  refine F.ok scSource (fun vs H Q E h => ?_) (fun cdv A outer s H vs Q E hr h => ?_)
  · obtain ⟨a, ns, rfl, _⟩ := h
    rfl
  · obtain ⟨a, ns, rfl, hS, q⟩ := h
    refine ⟨_, pss_cons (ps_set (i := 1) scSource.nd rfl (.inl rfl) pe_int)
      (pss_cons (ps_for PassesOwn.never rfl (pi_list (pv 0)) (pg_name (i := 2) scSource.nd rfl (.inl rfl))
        (pss_one (ps_set (i := 1) scSource.nd rfl (.inl rfl) (pe_op op_mod (pe_op op_add (pe_op op_mul (pv 1) pe_int) (pv 2)) pe_int))))
      (pss_one (ps_ret (pe_lst (pa_cons (pe_callTy call_list_of (by rfl) ml (by decide +kernel) (pa_cons (pv 0) pa_nil)) (pa_cons pe_int (pa_cons (pv 1) pa_nil))))))), ?_⟩
    refine ⟨.ref a, rfl, a, rfl, ⟨_, hS⟩, for_list (K := K) (xs := ns.map V.int) (fun i σ H1 => ∃ c s2, σ = [some (.ref a), some (.int c), s2] ∧ 0 ≤ c ∧ c < 998244353 ∧ H1 = H) ⟨_, _, rfl, by decide, by decide, rfl⟩ (fun i σ H1 _ h => ?_) (fun i x σ H1 hx h => ?_) (fun σ H1 h => ?_)⟩
    · obtain ⟨c, s2, rfl, _, _, rfl⟩ := h
      exact hS
    · obtain ⟨c, s2, rfl, h1, h2, rfl⟩ := h
      obtain ⟨n, _, rfl⟩ := map_get hx
      refine ⟨_, rfl, c, _, rfl, rfl, .inl ⟨by omega, by omega⟩, _, rfl, _, n, rfl, rfl, _, 998244353, rfl, rfl, (show (0 : Int) < 998244353 by decide), ?_⟩
      exact ⟨_, _, rfl, Int.emod_nonneg _ (by decide), Int.emod_lt_of_pos _ (by decide), rfl⟩
    · obtain ⟨c, s2, rfl, h1, h2, rfl⟩ := h
      refine ⟨.ref a, rfl, a, _, rfl, .inl hS, fun l hl => ?_⟩
      refine ⟨_, rfl, (show 3 ≤ sizeLine by decide), fun p hp => ?_⟩
      have npl : p ≠ l := fun e => by
        rw [e, upd_same] at hp
        cases hp
      refine q p l _ ((same_upd hl).trans (same_upd hp)) ?_ hl ⟨npl, ns, 0, c, upd_same, ?_, by decide, h1, h2⟩
      · exact (same_upd hl).free hp
      · rw [upd_ne npl.symm, upd_same]
end
section
variable {P : Program} {w : World} {K : PySem.W.Frag} {mg : Str → Option Value} {base : Heap}
/-! ### how_many_of_tray -/
def spTray : Sp := fun vs H Q _ => ∃ (x n : Int), vs = [.int x, .int n] ∧ 0 ≤ x ∧ x ≤ 1000 ∧ 0 ≤ n ∧ n ≤ 1000 ∧ Q (.int (n ^ x.toNat)) H
theorem ok_tray {f : Addr} {fd : FuncData} {k : Nat} (F : Fun K "how_many_of_tray" "how_many_of_tray" sTray f fd) (mx : mg "max" = none) (mr : mg "range" = none) : FnOk P w K mg base CX0 (k + 1) f fd ["wells", "number"] spTray := by
  refine F.ok scTray (fun vs H Q E h => ?_) (fun cdv A outer s H vs Q E hr h => ?_)
  · obtain ⟨x, n, rfl, _⟩ := h
    rfl
  · obtain ⟨x, n, rfl, x0, x1, n0, n1, q⟩ := h
    refine ⟨_, pss_cons (ps_set (i := 2) scTray.nd rfl (.inl rfl) (pe_callB (call_max2 rfl) (by rfl) mx (by decide +kernel) (pa_cons pe_int (pa_cons (pv 1) pa_nil))))
      (pss_cons (ps_set (i := 3) scTray.nd rfl (.inl rfl) pe_int)
      (pss_cons (ps_for PassesOwn.never rfl (pi_range1 rfl mr (pa_cons (pv 0) pa_nil)) (pg_name (i := 4) scTray.nd rfl (.inl rfl))
        (pss_one (ps_set (i := 3) scTray.nd rfl (.inl rfl) (pe_op op_mul (pv 3) (pv 2)))))
      (pss_one (ps_ret (pv 3))))), ?_⟩
    refine ⟨.int n, rfl, 0, n, rfl, ?_⟩
    rw [show (if n > (0 : Int) then n else 0) = n by split <;> omega]
    refine ⟨.int x, rfl, x, rfl, by omega, by omega, for_range (lo := 0) (n := x.toNat) (fun i σ H1 => ∃ s4, σ = [some (.int x), some (.int n), some (.int n), some (.int (n ^ i)), s4] ∧ H1 = H) ⟨_, by rw [Int.pow_zero]; rfl, rfl⟩ (fun i σ H1 hi h => ?_) (fun σ H1 h => ?_)⟩
    · obtain ⟨s4, rfl, rfl⟩ := h
      refine ⟨_, rfl, _, rfl, n ^ i, n, rfl, rfl, .inr ⟨by omega, by omega⟩, ?_⟩
      exact ⟨_, by rw [Int.pow_succ]; rfl, rfl⟩
    · obtain ⟨s4, rfl, rfl⟩ := h
      exact ⟨_, rfl, q⟩
/-! ### how_many -/
def spMany (K : PySem.W.Frag) : Sp := fun vs H Q _ => ∃ (t : Addr) (ws : List Int) (n : Int), vs = [.ref t, .int n] ∧ SqT K H t (ws.map V.int) ∧ ws.length ≤ 900 ∧ (∀ x ∈ ws, 0 ≤ x ∧ x ≤ 12) ∧ 0 ≤ n ∧ n ≤ 1000 ∧ ∀ H', Same H H' → Q (.int (cnt n ws)) H'
theorem ok_many {f fT : Addr} {fd fdT : FuncData} {k : Nat} (F : Fun K "how_many" "how_many" sMany f fd) (FT : Fun K "how_many_of_tray" "how_many_of_tray" sTray fT fdT) (bT : Binds K fdT ["wells", "number"] []) (gT : mg "how_many_of_tray" = some (.ref fT)) (mx : mg "max" = none) (mr : mg "range" = none) (ms : mg "sum" = none) : FnOk P w K mg base CX0 (k + 1 + 1) f fd ["crate", "number"] (spMany K) := by
  have GT : FnOk P w K mg base CX0 (k + 1) fT fdT ["wells", "number"] spTray := ok_tray FT mx mr
  refine F.ok scMany (fun vs H Q E h => ?_) (fun cdv A outer s H vs Q E hr h => ?_)
  · obtain ⟨t, ws, n, rfl, _⟩ := h
    rfl
  · obtain ⟨t, ws, n, rfl, hT, hl, ha, n0, n1, q⟩ := h
    refine ⟨_, pss_one (ps_ret (pe_callB (cr_sum rfl) (by rfl) ms (by decide +kernel) (pa_cons (pe_lc (own := [("wells", 2)]) (g := gName 2) (tt := tYes) rfl scMany.nd (pi_tup (pv 0)) (blkOk_by (N := ["crate", "number", "wells"]) (sc := defScope sMany) (by decide +kernel)) (fun _ _ _ _ _ => pg_name (i := 2) scMany.nd rfl (Or.inl rfl)) (fun _ _ _ _ _ => pts_nil)
        (fun _ _ _ _ _ => pe_call GT hr (by rfl) gT FT.kp bT .nil pass0 (pa_cons (pv 2) (pa_cons (pv 1) pa_nil)))) pa_nil))), ?_⟩
    refine ⟨.ref t, rfl, t, rfl, ⟨_, hT⟩, fun D hD => lc_tup (K := K) (a := t) (xs := ws.map V.int) (fun i H1 => Same H H1 ∧ H1 D = some (.lst (((ws.take i).map fun x => n ^ x.toNat).map V.int))) ⟨same_upd hD, upd_same⟩ (fun i H1 _ h => Same.tup h.1 hT) (fun i x H1 hx h => ?_) (fun H1 h => ?_)⟩
    · obtain ⟨y, hy, rfl⟩ := map_get hx
      have hb := ha y (List.mem_of_getElem? hy)
      refine ⟨rfl, _, rfl, _, rfl, y, n, rfl, hb.1, by omega, n0, n1, _, h.2, ?_, fun b o e => ?_, ?_⟩
      · rw [List.length_map, List.length_map, List.length_take]
        exact small1000 (by omega)
      · rw [upd_ne (ne_of_none e hD)]
        exact h.1 b o e
      · rw [upd_same, List.take_add_one, hy, List.map_append, List.map_append]
        rfl
    · have e := h.2
      rw [List.length_map, List.take_length] at e
      exact ⟨D, _, rfl, SqL.of e, q _ h.1⟩
/-! ### ways_many -/
theorem ok_manyW {f fM fT : Addr} {fd fdM fdT : FuncData} {k : Nat} (F : Fun K "ways_many" "ways_many" sManyW f fd)
    (FM : Fun K "how_many" "how_many" sMany fM fdM) (bM : Binds K fdM ["crate", "number"] []) (gM : mg "how_many" = some (.ref fM))
    (FT : Fun K "how_many_of_tray" "how_many_of_tray" sTray fT fdT) (bT : Binds K fdT ["wells", "number"] []) (gT : mg "how_many_of_tray" = some (.ref fT))
    (mx : mg "max" = none) (mr : mg "range" = none) (ms : mg "sum" = none) : FnOk P w K mg base CX0 (k + 1 + 1 + 1) f fd ["one", "other"] spManyW := by
  have GM : FnOk P w K mg base CX0 (k + 1 + 1) fM fdM ["crate", "number"] (spMany K) := ok_many FM FT bT gT mx mr ms
  refine F.ok scManyW (fun vs H Q E h => ?_) (fun cdv A outer s H vs Q E hr h => ?_)
  · obtain ⟨t1, t2, ws, us, rfl, _⟩ := h
    rfl
  · obtain ⟨t1, t2, ws, us, rfl, e1, e2, hw, hu, l1, l2, q⟩ := h
    refine ⟨_, (pss_cons (ps_set (i := 2) scManyW.nd rfl (Or.inl rfl) pe_int)
      (pss_cons (ps_for PassesOwn.never rfl (pi_tup (pv 0)) (pg_name (i := 3) scManyW.nd rfl (Or.inl rfl))
      (pss_one (ps_set (i := 2) scManyW.nd rfl (Or.inl rfl) (pe_op op_mul (pv 2) (pe_call GM hr (by rfl) gM FM.kp bM .nil pass0 (pa_cons (pv 1) (pa_cons (pv 3) pa_nil)))))))
      (pss_one (ps_ret (pv 2))))), ?_⟩
    refine ⟨.ref t1, rfl, t1, rfl, ⟨_, SqT.of e1⟩, for_tup (K := K) (xs := ws.map V.int) (fun i σ H1 => ∃ y, σ = [some (.ref t1), some (.ref t2), some (.int (manyW us (ws.take i))), y] ∧ Same H H1) ⟨_, rfl, same_refl⟩ (fun i σ H1 _ h => ?_) (fun i x σ H1 hx h => ?_) (fun σ H1 h => ?_)⟩
    · obtain ⟨y, rfl, s1⟩ := h
      exact SqT.of (s1 _ _ e1)
    · obtain ⟨y, rfl, s1⟩ := h
      obtain ⟨z, hz, rfl⟩ := map_get hx
      have hb := hw z (List.mem_of_getElem? hz)
      refine ⟨_, rfl, .ref t2, rfl, .int z, rfl, t2, us, z, rfl, SqT.of (s1 _ _ e2), by omega, hu, hb.1, by omega, fun H2 s2 => ?_⟩
      refine ⟨manyW us (ws.take i), cnt z us, rfl, rfl, .inr (cnt_small hb.1 hb.2 hu (by omega)), ?_⟩
      exact ⟨_, by rw [many_take hz]; rfl, s1.trans s2⟩
    · obtain ⟨y, rfl, s1⟩ := h
      rw [List.length_map, List.take_length]
      exact ⟨_, rfl, q _ s1⟩
/-! ### things_at -/
def spThings : Sp := fun vs H Q _ => ∃ (w n m : Int), vs = [.int w, .int n, .int m] ∧ 0 ≤ w ∧ w ≤ 12 ∧ 0 ≤ n ∧ n ≤ 1000 ∧ 0 ≤ m ∧ m < n ^ w.toNat ∧ ∀ a r H', Same H H' → H' a = some (.tup (r.map V.int)) → r.length = w.toNat → Below n r → dig n r = m → Q (.ref a) H'
theorem ok_things {f : Addr} {fd : FuncData} {k : Nat} (F : Fun K "things_at" "things_at" sThings f fd) (mr : mg "range" = none) (mt : mg "tuple" = none) (mdm : mg "divmod" = none) : FnOk P w K mg base CX0 (k + 1) f fd ["wells", "number", "place"] spThings := by
  refine F.ok scThings (fun vs H Q E h => ?_) (fun cdv A outer s H vs Q E hr h => ?_)
  · obtain ⟨w, n, m, rfl, _⟩ := h
    rfl
  · obtain ⟨w, n, m, rfl, w0, w1, n0, n1, m0, m1, q⟩ := h
    refine ⟨_, (pss_cons (ps_set (i := 3) scThings.nd rfl (Or.inl rfl) (pe_lst pa_nil))
      (pss_cons (ps_for PassesOwn.never rfl (pi_range1 rfl mr (pa_cons (pv 0) pa_nil)) (pg_name (i := 4) scThings.nd rfl (Or.inl rfl))
      (pss_cons (ps_asg (pe_callB call_divmodW (by rfl) mdm (by decide +kernel) (pa_cons (pv 2) (pa_cons (pv 1) pa_nil))) (pg_tup rfl (pgs_cons (pg_name (i := 2) scThings.nd rfl (Or.inl rfl)) (pgs_cons (pg_name (i := 5) scThings.nd rfl (Or.inl rfl)) pgs_nil))))
      (pss_one (ps_expr (pe_bm PySem.F.plainAttrs_list PySem.F.slot_list_append PySem.F.type_list_append mt_append (pv 3) (pa_cons (pv 5) pa_nil))))))
      (pss_one (ps_ret (pe_callTy call_tuple_of (by rfl) mt (by decide +kernel) (pa_cons (pe_revL (pv 3)) pa_nil)))))), ?_⟩
    refine ⟨Nat.zero_le _, fun R hR => ?_⟩
    refine ⟨.int w, rfl, w, rfl, by omega, by omega, for_range (lo := 0) (n := w.toNat) (fun i σ H1 => ∃ y4 y5 m1 r, σ = [some (.int w), some (.int n), some (.int m1), some (.ref R), y4, y5] ∧ Same H H1 ∧ H1 R = some (.lst (r.reverse.map V.int)) ∧ r.length = i ∧ Below n r ∧ 0 ≤ m1 ∧ m = m1 * n ^ i + dig n r) ?_ (fun i σ H1 hi h => ?_) (fun σ H1 h => ?_)⟩
    · exact ⟨none, none, m, [], rfl, same_upd hR, upd_same, rfl, (fun y hy => by cases hy), m0, by rw [Int.pow_zero, Int.mul_one]; exact (Int.add_zero m).symm⟩
    · obtain ⟨y4, y5, m1', r, rfl, s1, eR, hl, hb, h0, hm⟩ := h
      have hn : n ≠ 0 := fun e => by
        rw [e, Int.zero_pow (by omega)] at m1
        omega
      refine ⟨.int m1', rfl, .int n, rfl, m1', n, rfl, divp_small (by omega) (by omega), fun T hT => ?_⟩
      have s2 := s1.trans (same_upd (o := .tup [.int (m1' / n), .int (m1' % n)]) hT)
      have eR2 := same_upd (o := .tup [.int (m1' / n), .int (m1' % n)]) hT _ _ eR
      refine ⟨T, _, rfl, SqT.of upd_same, rfl, .int (m1' / n), [.int (m1' % n)], rfl, .int (m1' % n), [], rfl, rfl, ?_⟩
      refine ⟨.ref R, rfl, .inl ⟨rfl, _, SqL.of eR2⟩, .int (m1' % n), rfl, R, _, _, rfl, rfl, eR2, ?_, ?_⟩
      · rw [List.length_map, List.length_reverse, hl]
        exact small1000 (by omega)
      · have d0 := Int.emod_nonneg m1' hn
        have d1 := Int.emod_lt_of_pos m1' (show 0 < n by omega)
        refine ⟨_, _, m1' / n, (m1' % n) :: r, rfl, Same.of_lst s2 hR, ?_, ?_, ?_, Int.ediv_nonneg h0 n0, ?_⟩
        · rw [upd_same, List.reverse_cons, List.map_append]
          rfl
        · rw [List.length_cons, hl]
        · intro y hy
          rcases List.mem_cons.mp hy with rfl | hy
          · exact ⟨d0, d1⟩
          · exact hb y hy
        · show m = m1' / n * n ^ (i + 1) + (m1' % n * n ^ r.length + dig n r)
          rw [hl, hm, Int.emod_def, Int.sub_mul, Int.pow_succ, Int.mul_comm n (m1' / n), Int.mul_assoc (m1' / n) n, Int.mul_comm n (n ^ i)]
          omega
    · obtain ⟨y4, y5, m1', r, rfl, s1, eR, hl, hb, h0, hm⟩ := h
      refine ⟨.ref R, rfl, R, _, rfl, SqL.of eR, fun p hp => ?_⟩
      rw [← List.map_reverse, List.reverse_reverse]
      refine ⟨p, _, rfl, .inl ⟨SqL.of upd_same, fun a ha => ?_⟩⟩
      refine q a r _ ((s1.trans (same_upd hp)).trans (same_upd ha)) upd_same hl hb ?_
      obtain ⟨b0, b1⟩ := dig_bound hb
      rw [hl] at b1
      have hz : m1' = 0 := by
        rcases Int.lt_or_le 0 m1' with h | h
        · have : 1 * n ^ w.toNat ≤ m1' * n ^ w.toNat := Int.mul_le_mul_of_nonneg_right (by omega) (pow_nn n0)
          omega
        · omega
      rw [hm, hz, Int.zero_mul, Int.zero_add]
/-! ### filling_at -/
def spFillAt : Sp := fun vs H Q _ => ∃ (t : Addr) (us : List Int) (n m : Int), vs = [.ref t, .int n, .int m] ∧ H t = some (.tup (us.map V.int)) ∧ (∀ x ∈ us, 0 ≤ x ∧ x ≤ 12) ∧ 0 ≤ n ∧ n ≤ 1000 ∧ 0 ≤ m ∧ m < cnt n us ∧ ∀ a b p H', Same H H' → H' a = some (.tup [.int p.1, .ref b]) → H' b = some (.tup (p.2.map V.int)) → FillOk n us p → fnum n us p = m → Q (.ref a) H'
theorem ok_fillAt {f fT fG : Addr} {fd fdT fdG : FuncData} {k : Nat} (F : Fun K "filling_at" "filling_at" sFillAt f fd)
    (FT : Fun K "how_many_of_tray" "how_many_of_tray" sTray fT fdT) (bT : Binds K fdT ["wells", "number"] []) (gT : mg "how_many_of_tray" = some (.ref fT))
    (FG : Fun K "things_at" "things_at" sThings fG fdG) (bG : Binds K fdG ["wells", "number", "place"] []) (gG : mg "things_at" = some (.ref fG))
    (mx : mg "max" = none) (mr : mg "range" = none) (mt : mg "tuple" = none) (mdm : mg "divmod" = none) : FnOk P w K mg base CX0 (k + 1 + 1) f fd ["crate", "number", "place"] spFillAt := by
  have GT : FnOk P w K mg base CX0 (k + 1) fT fdT ["wells", "number"] spTray := ok_tray FT mx mr
  have GG : FnOk P w K mg base CX0 (k + 1) fG fdG ["wells", "number", "place"] spThings := ok_things FG mr mt mdm
  refine F.ok scFillAt (fun vs H Q E h => ?_) (fun cdv A outer s H vs Q E hr h => ?_)
  · obtain ⟨t, us, n, m, rfl, _⟩ := h
    rfl
  · obtain ⟨t, us, n, m, rfl, ht, hu, n0, n1, m0, m1, q⟩ := h
    refine ⟨_, (pss_cons (ps_set (i := 3) scFillAt.nd rfl (Or.inl rfl) pe_int)
      (pss_cons (ps_while PassesOwn.never (pt_cmpR op_ge (pv 2) (pe_call GT hr (by rfl) gT FT.kp bT .nil pass0 (pa_cons (pe_ix ix_tup (pv 0) (pv 3) (fun _ _ => rfl)) (pa_cons (pv 1) pa_nil))) (nomark _))
      (pss_cons (ps_set (i := 2) scFillAt.nd rfl (Or.inl rfl) (pe_op op_sub (pv 2) (pe_call GT hr (by rfl) gT FT.kp bT .nil pass0 (pa_cons (pe_ix ix_tup (pv 0) (pv 3) (fun _ _ => rfl)) (pa_cons (pv 1) pa_nil)))))
      (pss_one (ps_set (i := 3) scFillAt.nd rfl (Or.inl rfl) (pe_op op_add (pv 3) pe_int)))))
      (pss_one (ps_ret (pe_tup (pa_cons (pv 3) (pa_cons (pe_call GG hr (by rfl) gG FG.kp bG .nil pass0 (pa_cons (pe_ix ix_tup (pv 0) (pv 3) (fun _ _ => rfl)) (pa_cons (pv 1) (pa_cons (pv 2) pa_nil)))) pa_nil))))))), ?_⟩
    refine ⟨fun z σ H1 => ∃ (i : Nat) (m1 : Int), z = us.length - i ∧ σ = [some (.ref t), some (.int n), some (.int m1), some (.int (i : Int))] ∧ H1 = H ∧ 0 ≤ m1 ∧ m = cnt n (us.take i) + m1, ⟨_, 0, m, rfl, rfl, rfl, m0, ?_⟩, fun z σ H1 h => ?_⟩
    · show m = (0 : Int) + m
      rw [Int.zero_add]
    · obtain ⟨i, m2, rfl, rfl, rfl, h0, hm⟩ := h
      have hi : i < us.length := by
        rcases Nat.lt_or_ge i us.length with h | h
        · exact h
        · rw [List.take_of_length_le h] at hm
          omega
      have g : us[i]? = some us[i] := List.getElem?_eq_getElem hi
      have hx := hu _ (List.getElem_mem hi)
      generalize us[i] = x at g hx
      have ai : atI (us.map V.int) (i : Int) = some (.int x) := atI_nat (by rw [List.getElem?_map, g]; rfl)
      refine ⟨.int m2, rfl, .ref t, rfl, .int (i : Int), rfl, t, _, (i : Int), .int x, rfl, rfl, SqT.of ht, ai, .int n, rfl, x, n, rfl, hx.1, by omega, n0, n1, m2, n ^ x.toNat, rfl, rfl, _, rfl, ite2 (fun c0 => ?_) (fun c0 => ?_)⟩
      · have c1 : n ^ x.toNat ≤ m2 := of_decide_eq_true c0
        refine ⟨fun σ' H' => σ' = [some (.ref t), some (.int n), some (.int (m2 - n ^ x.toNat)), some (.int ((i + 1 : Nat) : Int))] ∧ H' = H1, fun σ' H' h => ⟨us.length - (i + 1), by omega, i + 1, m2 - n ^ x.toNat, rfl, h.1, h.2, by omega, ?_⟩, ?_⟩
        · rw [cnt_take g]
          omega
        · refine ⟨.int m2, rfl, .ref t, rfl, .int (i : Int), rfl, t, _, (i : Int), .int x, rfl, rfl, SqT.of ht, ai, .int n, rfl, x, n, rfl, hx.1, by omega, n0, n1, m2, n ^ x.toNat, rfl, rfl, ?_⟩
          exact ⟨.int (i : Int), rfl, (i : Int), 1, rfl, rfl, rfl, rfl⟩
      · have c1 : ¬ n ^ x.toNat ≤ m2 := fun z => c0 (decide_eq_true z)
        refine ⟨.int (i : Int), rfl, .ref t, rfl, .int (i : Int), rfl, t, _, (i : Int), .int x, rfl, rfl, SqT.of ht, ai, .int n, rfl, .int m2, rfl, x, n, m2, rfl, hx.1, hx.2, n0, n1, h0, by omega, fun b r H2 s2 eb hl hb hd => ?_⟩
        refine ⟨(show 2 ≤ sizeLine by decide), fun a ha => ?_⟩
        refine q a b ((i : Int), r) _ (s2.trans (same_upd ha)) upd_same (same_upd ha _ _ eb) ⟨by show (0 : Int) ≤ (i : Int); omega, by show (i : Int) < _; omega, ?_, hb⟩ ?_
        · show us[((i : Int)).toNat]? = some (((r.length : Nat)) : Int)
          rw [Int.toNat_natCast, g, hl]
          congr 1
          omega
        · show cnt n (us.take ((i : Int)).toNat) + dig n r = m
          rw [Int.toNat_natCast, hd, hm]
/-! ### way_at, of a good number -/
theorem wayOk_suf {us : List Int} {x : Int} {suf : List Int} {p : Int × List Int} {wy : List (Int × List Int)} (hp : FillOk x us p) (h : WayOk suf us wy) : WayOk (x :: suf) us (p :: wy) := wayOk_cons.mpr ⟨hp, h⟩
theorem Pairs.cons {H : Hp} {xs : List V} {fs : List (Int × List Int)} {a b : Addr} {p : Int × List Int} (h : Pairs H xs fs) (e : H a = some (.tup [.int p.1, .ref b])) (e2 : H b = some (.tup (p.2.map V.int))) : Pairs H (.ref a :: xs) (p :: fs) :=
  pairs_app (xs := [.ref a]) (a := [p]) ⟨rfl, fun i x q h1 h2 => by
    cases i with
    | zero =>
      cases h1
      cases h2
      exact ⟨a, b, rfl, e, e2⟩
    | succ i => simp at h1⟩ h
theorem at_step {m c M W : Int} : m * M + W = m / c * (c * M) + (m % c * M + W) := by
  rw [Int.emod_def, Int.sub_mul, Int.mul_comm c (m / c), ← Int.mul_assoc]
  omega
theorem ok_wayAt {f fM fT fG fV fL : Addr} {fd fdM fdT fdG fdV fdL : FuncData} {k : Nat} (F : Fun K "way_at" "way_at" sWayAt f fd)
    (FM : Fun K "how_many" "how_many" sMany fM fdM) (bM : Binds K fdM ["crate", "number"] []) (gM : mg "how_many" = some (.ref fM))
    (FT : Fun K "how_many_of_tray" "how_many_of_tray" sTray fT fdT) (bT : Binds K fdT ["wells", "number"] []) (gT : mg "how_many_of_tray" = some (.ref fT))
    (FG : Fun K "things_at" "things_at" sThings fG fdG) (bG : Binds K fdG ["wells", "number", "place"] []) (gG : mg "things_at" = some (.ref fG))
    (FV : Fun K "ways_many" "ways_many" sManyW fV fdV) (bV : Binds K fdV ["one", "other"] []) (gV : mg "ways_many" = some (.ref fV))
    (FL : Fun K "filling_at" "filling_at" sFillAt fL fdL) (bL : Binds K fdL ["crate", "number", "place"] []) (gL : mg "filling_at" = some (.ref fL))
    (mx : mg "max" = none) (mr : mg "range" = none) (ms : mg "sum" = none) (mt : mg "tuple" = none) (mdm : mg "divmod" = none) : FnOk P w K mg base CX0 (k + 1 + 1 + 1 + 1) f fd ["one", "other", "number"] spWayAt := by
  have GM : FnOk P w K mg base CX0 (k + 1 + 1 + 1) fM fdM ["crate", "number"] (spMany K) := ok_many FM FT bT gT mx mr ms
  have GV : FnOk P w K mg base CX0 (k + 1 + 1 + 1) fV fdV ["one", "other"] spManyW := ok_manyW FV FM bM gM FT bT gT mx mr ms
  have GL : FnOk P w K mg base CX0 (k + 1 + 1 + 1) fL fdL ["crate", "number", "place"] spFillAt := ok_fillAt FL FT bT gT FG bG gG mx mr mt mdm
  refine F.ok scWayAt (fun vs H Q E h => ?_) (fun cdv A outer s H vs Q E hr h => ?_)
  · obtain ⟨t1, t2, ws, us, n, rfl, _⟩ := h
    rfl
  · obtain ⟨t1, t2, ws, us, n, rfl, e1, e2, hw, hu, l1, l2, n0, n1, q⟩ := h
    refine ⟨_, (pss_cons (ps_if (pt_not (pt_chain op_le op_lt pe_int (pv 2) (pe_call GV hr (by rfl) gV FV.kp bV .nil pass0 (pa_cons (pv 0) (pa_cons (pv 1) pa_nil)))))
      (pss_one (ps_never)) pss_nil)
      (pss_cons (ps_set (i := 3) scWayAt.nd rfl (Or.inl rfl) (pe_lst pa_nil))
      (pss_cons (ps_for PassesOwn.never rfl (pi_tup (pe_revT (pv 0))) (pg_name (i := 4) scWayAt.nd rfl (Or.inl rfl))
      (pss_cons (ps_asg (pe_callB call_divmodW (by rfl) mdm (by decide +kernel) (pa_cons (pv 2) (pa_cons (pe_call GM hr (by rfl) gM FM.kp bM .nil pass0 (pa_cons (pv 1) (pa_cons (pv 4) pa_nil))) pa_nil))) (pg_tup rfl (pgs_cons (pg_name (i := 2) scWayAt.nd rfl (Or.inl rfl)) (pgs_cons (pg_name (i := 5) scWayAt.nd rfl (Or.inl rfl)) pgs_nil))))
      (pss_one (ps_expr (pe_bm PySem.F.plainAttrs_list PySem.F.slot_list_append PySem.F.type_list_append mt_append (pv 3) (pa_cons (pe_call GL hr (by rfl) gL FL.kp bL .nil pass0 (pa_cons (pv 1) (pa_cons (pv 4) (pa_cons (pv 5) pa_nil)))) pa_nil))))))
      (pss_one (ps_ret (pe_callTy call_tuple_of (by rfl) mt (by decide +kernel) (pa_cons (pe_revL (pv 3)) pa_nil))))))), ?_⟩
    have hw0 : ∀ x ∈ ws, 0 ≤ x := fun x hx => (hw x hx).1
    have pos := many_pos hw0 (show 0 < manyW us ws by omega)
    refine ⟨.int n, rfl, 0, n, rfl, rfl, _, rfl, ?_⟩
    rw [decide_eq_true n0]
    refine iteT ?_
    refine ⟨.ref t1, rfl, .ref t2, rfl, t1, t2, ws, us, rfl, e1, e2, hw, hu, l1, l2, fun H1 s1 => ?_⟩
    refine ⟨n, manyW us ws, rfl, rfl, _, rfl, ?_⟩
    rw [decide_eq_true n1]
    refine iteF ?_
    refine ⟨Nat.zero_le _, fun R hR => ?_⟩
    have hR0 := s1.free hR
    have s2 := s1.trans (same_upd (o := .lst []) hR)
    refine ⟨.ref t1, rfl, t1, _, rfl, SqT.of (s2 _ _ e1), fun U hU => ?_⟩
    have s3 := s2.trans (same_upd (o := .tup (ws.map V.int).reverse) hU)
    have eR3 := same_upd (o := .tup (ws.map V.int).reverse) hU _ _ (upd_same (H := H1) (a := R) (o := .lst []))
    have eU3 : (upd (upd H1 R (.lst [])) U (.tup (ws.map V.int).reverse)) U = some (.tup (ws.map V.int).reverse) := upd_same
    generalize upd (upd H1 R (.lst [])) U (.tup (ws.map V.int).reverse) = H3 at s3 eR3 eU3 ⊢
    refine ⟨U, rfl, ⟨_, SqT.of eU3⟩, for_tup (K := K) (xs := (ws.map V.int).reverse) (fun i σ H4 => ∃ y4 y5 m xs pre suf wy, σ = [some (.ref t1), some (.ref t2), some (.int m), some (.ref R), y4, y5] ∧ Same H H4 ∧ H4 U = some (.tup (ws.map V.int).reverse) ∧ H4 R = some (.lst xs) ∧ Pairs H4 xs.reverse wy ∧ ws = pre ++ suf ∧ suf.length = i ∧ WayOk suf us wy ∧ 0 ≤ m ∧ n = m * manyW us suf + wnum us suf wy) ?_ (fun i σ H4 _ h => ?_) (fun i x σ H4 hx h => ?_) (fun σ H4 h => ?_)⟩
    · refine ⟨none, none, n, [], ws, [], [], rfl, s3, eU3, eR3, ⟨rfl, fun i x p h1 _ => by simp at h1⟩, (List.append_nil _).symm, rfl, ⟨rfl, fun i p x h1 _ => by simp at h1⟩, n0, ?_⟩
      show n = n * 1 + 0
      omega
    · obtain ⟨y4, y5, m, xs, pre, suf, wy, rfl, s4, eU, _⟩ := h
      exact SqT.of eU
    · obtain ⟨y4, y5, m, xs, pre, suf, wy, rfl, s4, eU, eR, pR, hws, hsl, hok, m0, hn⟩ := h
      have hil : i < ws.length := by
        have := (List.getElem?_eq_some_iff.mp hx).1
        rw [List.length_reverse, List.length_map] at this
        exact this
      have hpl : pre.length = ws.length - i := by
        have := congrArg List.length hws
        rw [List.length_append] at this
        omega
      obtain ⟨pre', x', rfl⟩ : ∃ pre' x', pre = pre' ++ [x'] := ⟨pre.dropLast, pre.getLast (fun e => by rw [e] at hpl; simp at hpl; omega), (List.dropLast_concat_getLast _).symm⟩
      have hxe : x = .int x' := by
        rw [← List.map_reverse, hws, List.append_assoc, List.reverse_append, List.reverse_append] at hx
        rw [List.map_append, List.map_append, List.append_assoc, List.getElem?_append_right (by rw [List.length_map, List.length_reverse]; omega), List.length_map, List.length_reverse, hsl, Nat.sub_self] at hx
        cases hx
        rfl
      subst hxe
      have hxm : x' ∈ ws := by rw [hws]; simp
      have hb := hw x' hxm
      have c0 := pos x' hxm
      have c1 := cnt_small (n := x') (us := us) hb.1 hb.2 hu (by omega)
      have u4 := s4 _ _ e2
      refine ⟨.int m, rfl, .ref t2, rfl, .int x', rfl, t2, us, x', rfl, SqT.of u4, by omega, hu, hb.1, by omega, fun H5 s5 => ?_⟩
      refine ⟨m, cnt x' us, rfl, divp_small c0 c1.2, fun T hT => ?_⟩
      have s6 := s5.trans (same_upd (o := .tup [.int (m / cnt x' us), .int (m % cnt x' us)]) hT)
      refine ⟨T, _, rfl, SqT.of upd_same, rfl, .int (m / cnt x' us), [.int (m % cnt x' us)], rfl, .int (m % cnt x' us), [], rfl, rfl, ?_⟩
      have d0 := Int.emod_nonneg m (show cnt x' us ≠ 0 by omega)
      have d1 := Int.emod_lt_of_pos m c0
      refine ⟨.ref R, rfl, .inl ⟨rfl, _, SqL.of (s6 _ _ eR)⟩, .ref t2, rfl, .int x', rfl, .int (m % cnt x' us), rfl, t2, us, x', m % cnt x' us, rfl, s6 _ _ u4, hu, hb.1, by omega, d0, d1, fun a b p H7 s7 ea eb fp fe => ?_⟩
      have s47 := s6.trans s7
      have eR7 := s47 _ _ eR
      refine ⟨R, xs, .ref a, rfl, rfl, eR7, ?_, ?_⟩
      · have := pR.1
        rw [List.length_reverse] at this
        rw [this, hok.1]
        exact small1000 (by omega)
      · have k7 := keep_lst (acc' := xs ++ [.ref a]) eR7
        refine ⟨_, _, m / cnt x' us, xs ++ [.ref a], pre', x' :: suf, p :: wy, rfl, Same.of_lst (s4.trans s47) hR0, ?_, upd_same, ?_, ?_, by rw [List.length_cons, hsl], wayOk_suf fp hok, Int.ediv_nonneg m0 (by omega), ?_⟩
        · exact k7 _ _ (s47 _ _ eU)
        · rw [List.reverse_append]
          exact Pairs.cons ((pR.keep (.of_same s47)).keep k7) (k7 _ _ ea) (k7 _ _ eb)
        · rw [hws, List.append_assoc]
          rfl
        · show n = m / cnt x' us * (cnt x' us * manyW us suf) + (fnum x' us p * manyW us suf + wnum us suf wy)
          rw [fe, ← at_step]
          exact hn
    · obtain ⟨y4, y5, m, xs, pre, suf, wy, rfl, s4, eU, eR, pR, hws, hsl, hok, m0, hn⟩ := h
      have hpre : pre = [] := by
        have := congrArg List.length hws
        rw [List.length_append, hsl, List.length_reverse, List.length_map] at this
        exact List.eq_nil_of_length_eq_zero (by omega)
      rw [hpre, List.nil_append] at hws
      subst hws
      refine ⟨.ref R, rfl, R, _, rfl, SqL.of eR, fun p hp => ?_⟩
      refine ⟨p, _, rfl, .inl ⟨SqL.of upd_same, fun a ha => ?_⟩⟩
      have sp := (same_upd (o := .lst xs.reverse) hp).trans (same_upd (o := .tup xs.reverse) ha)
      refine q a wy _ (s4.trans sp) ⟨xs.reverse, upd_same, pR.keep (.of_same sp)⟩ hok ?_
      obtain ⟨b0, b1⟩ := wnum_bound hw0 hok
      have hz : m = 0 := by
        rcases Int.lt_or_le 0 m with h | h
        · have : 1 * manyW us ws ≤ m * manyW us ws := Int.mul_le_mul_of_nonneg_right (by omega) (by omega)
          omega
        · omega
      rw [hn, hz, Int.zero_mul, Int.zero_add]

/-! ### place_of -/
def spPlaceOf : Sp := fun vs H Q _ => ∃ (t a b : Addr) (us : List Int) (n : Int) (p : Int × List Int), vs = [.ref t, .int n, .ref a] ∧ H t = some (.tup (us.map V.int)) ∧ H a = some (.tup [.int p.1, .ref b]) ∧ H b = some (.tup (p.2.map V.int)) ∧ us.length ≤ 900 ∧ (∀ x ∈ us, 0 ≤ x ∧ x ≤ 12) ∧ 0 ≤ n ∧ n ≤ 1000 ∧ FillOk n us p ∧ ∀ H', Same H H' → Q (.int (fnum n us p)) H'
theorem ok_placeOf {f fM fT : Addr} {fd fdM fdT : FuncData} {k : Nat} (F : Fun K "place_of" "place_of" sPlaceOf f fd)
    (FM : Fun K "how_many" "how_many" sMany fM fdM) (bM : Binds K fdM ["crate", "number"] []) (gM : mg "how_many" = some (.ref fM))
    (FT : Fun K "how_many_of_tray" "how_many_of_tray" sTray fT fdT) (bT : Binds K fdT ["wells", "number"] []) (gT : mg "how_many_of_tray" = some (.ref fT))
    (mx : mg "max" = none) (mr : mg "range" = none) (ms : mg "sum" = none) : FnOk P w K mg base CX0 (k + 1 + 1 + 1) f fd ["crate", "number", "filling"] spPlaceOf := by
  have GM : FnOk P w K mg base CX0 (k + 1 + 1) fM fdM ["crate", "number"] (spMany K) := ok_many FM FT bT gT mx mr ms
  refine F.ok scPlaceOf (fun vs H Q E h => ?_) (fun cdv A outer s H vs Q E hr h => ?_)
  · obtain ⟨t, a, b, us, n, p, rfl, _⟩ := h
    rfl
  · obtain ⟨t, a, b, us, n, p, rfl, ht, ea, eb, lu, hu, n0, n1, fp, q⟩ := h
    refine ⟨_, (pss_cons (ps_asg (pv 2) (pg_tup rfl (pgs_cons (pg_name (i := 3) scPlaceOf.nd rfl (Or.inl rfl)) (pgs_cons (pg_name (i := 4) scPlaceOf.nd rfl (Or.inl rfl)) pgs_nil))))
      (pss_cons (ps_set (i := 5) scPlaceOf.nd rfl (Or.inl rfl) pe_int)
      (pss_cons (ps_for PassesOwn.never rfl (pi_tup (pv 4)) (pg_name (i := 6) scPlaceOf.nd rfl (Or.inl rfl))
      (pss_one (ps_set (i := 5) scPlaceOf.nd rfl (Or.inl rfl) (pe_op op_add (pe_op op_mul (pv 5) (pv 1)) (pv 6)))))
      (pss_one (ps_ret (pe_op op_add (pe_call GM hr (by rfl) gM FM.kp bM .nil pass0 (pa_cons (pe_slice sl_tupA (pv 0) po_none (po_some (pv 3))) (pa_cons (pv 1) pa_nil))) (pv 5))))))), ?_⟩
    refine ⟨.ref a, rfl, a, _, rfl, SqT.of ea, rfl, .int p.1, [.ref b], rfl, .ref b, [], rfl, rfl, ?_⟩
    refine ⟨.ref b, rfl, b, rfl, ⟨_, SqT.of eb⟩, for_tup (K := K) (xs := p.2.map V.int) (fun i σ H1 => ∃ y6, σ = [some (.ref t), some (.int n), some (.ref a), some (.int p.1), some (.ref b), some (.int (dig n (p.2.take i))), y6] ∧ H1 = H) ⟨_, rfl, rfl⟩ (fun i σ H1 _ h => ?_) (fun i x σ H1 hx h => ?_) (fun σ H1 h => ?_)⟩
    · obtain ⟨y6, rfl, rfl⟩ := h
      exact SqT.of eb
    · obtain ⟨y6, rfl, rfl⟩ := h
      obtain ⟨z, hz, rfl⟩ := map_get hx
      refine ⟨_, rfl, .int n, rfl, dig n (p.2.take i), n, rfl, rfl, .inr ⟨by omega, by omega⟩, .int z, rfl, _, z, rfl, rfl, ?_⟩
      exact ⟨_, by rw [List.take_add_one, hz, Option.toList_some, dig_snoc]; rfl, rfl⟩
    · obtain ⟨y6, rfl, rfl⟩ := h
      obtain ⟨p0, p1, p2, p3⟩ := fp
      refine ⟨.ref t, rfl, .int p.1, rfl, p.1, rfl, r_take ht p0 (by rw [List.length_map]; omega) (fun c H2 s2 ec => ?_)⟩
      rw [← List.map_take] at ec
      refine ⟨.int n, rfl, c, us.take p.1.toNat, n, rfl, SqT.of ec, by rw [List.length_take]; omega, fun x hx => hu x (List.mem_of_mem_take hx), n0, n1, fun H3 s3 => ?_⟩
      refine ⟨_, rfl, _, _, rfl, rfl, ?_⟩
      rw [List.length_map, List.take_length]
      exact q _ (s2.trans s3)
/-! ### number_of -/
theorem ok_numOf {f fM fT fO : Addr} {fd fdM fdT fdO : FuncData} {k : Nat} (F : Fun K "number_of" "number_of" sNumOf f fd)
    (FM : Fun K "how_many" "how_many" sMany fM fdM) (bM : Binds K fdM ["crate", "number"] []) (gM : mg "how_many" = some (.ref fM))
    (FT : Fun K "how_many_of_tray" "how_many_of_tray" sTray fT fdT) (bT : Binds K fdT ["wells", "number"] []) (gT : mg "how_many_of_tray" = some (.ref fT))
    (FO : Fun K "place_of" "place_of" sPlaceOf fO fdO) (bO : Binds K fdO ["crate", "number", "filling"] []) (gO : mg "place_of" = some (.ref fO))
    (mx : mg "max" = none) (mr : mg "range" = none) (ms : mg "sum" = none) (mz : mg "zip" = none) : FnOk P w K mg base CX0 (k + 1 + 1 + 1 + 1) f fd ["one", "other", "way"] spNumOf := by
  have GM : FnOk P w K mg base CX0 (k + 1 + 1 + 1) fM fdM ["crate", "number"] (spMany K) := ok_many FM FT bT gT mx mr ms
  have GO : FnOk P w K mg base CX0 (k + 1 + 1 + 1) fO fdO ["crate", "number", "filling"] spPlaceOf := ok_placeOf FO FM bM gM FT bT gT mx mr ms
  refine F.ok scNumOf (fun vs H Q E h => ?_) (fun cdv A outer s H vs Q E hr h => ?_)
  · obtain ⟨t1, t2, tw, ws, us, wy, rfl, _⟩ := h
    rfl
  · obtain ⟨t1, t2, tw, ws, us, wy, rfl, e1, e2, hw, hu, l1, l2, hW, hok, q⟩ := h
    obtain ⟨xs, ew, hP⟩ := hW
    refine ⟨_, (pss_cons (ps_set (i := 3) scNumOf.nd rfl (Or.inl rfl) pe_int)
      (pss_cons (ps_for PassesOwn.never rfl (RZ.pi_zipA (by rfl) mz (pa_cons (pv 0) (pa_cons (pv 2) pa_nil))) (pg_tup rfl (pgs_cons (pg_name (i := 4) scNumOf.nd rfl (Or.inl rfl)) (pgs_cons (pg_name (i := 5) scNumOf.nd rfl (Or.inl rfl)) pgs_nil)))
      (pss_one (ps_set (i := 3) scNumOf.nd rfl (Or.inl rfl) (pe_op op_add (pe_op op_mul (pv 3) (pe_call GM hr (by rfl) gM FM.kp bM .nil pass0 (pa_cons (pv 1) (pa_cons (pv 4) pa_nil)))) (pe_call GO hr (by rfl) gO FO.kp bO .nil pass0 (pa_cons (pv 1) (pa_cons (pv 4) (pa_cons (pv 5) pa_nil))))))))
      (pss_one (ps_ret (pv 3))))), ?_⟩
    have hxl : (ws.map V.int).length = xs.length := by rw [List.length_map, hP.1, hok.1]
    refine ⟨.ref t1, rfl, .ref tw, rfl, t1, tw, _, _, rfl, .inr ⟨SqT.of e1, SqT.of ew, RZ.for_zipT hxl (fun i σ H1 => ∃ y4 y5, σ = [some (.ref t1), some (.ref t2), some (.ref tw), some (.int (wnum us (ws.take i) (wy.take i))), y4, y5] ∧ Same H H1) ⟨none, none, rfl, same_refl⟩ (fun i σ H1 h => ?_) (fun i x y T σ H1 hx hy h hT => ?_) (fun σ H1 h => ?_)⟩⟩
    · obtain ⟨y4, y5, rfl, s1⟩ := h
      exact ⟨SqT.of (s1 _ _ e1), SqT.of (s1 _ _ ew)⟩
    · obtain ⟨y4, y5, rfl, s1⟩ := h
      obtain ⟨z, hz, rfl⟩ := map_get hx
      have hb := hw z (List.mem_of_getElem? hz)
      have hil : i < wy.length := by
        rw [hok.1]
        exact (List.getElem?_eq_some_iff.mp hz).1
      have gw : wy[i]? = some wy[i] := List.getElem?_eq_getElem hil
      generalize wy[i] = p at gw
      obtain ⟨a, b, rfl, ea, eb⟩ := hP.2 i y p hy gw
      have s2 := s1.trans (same_upd (o := .tup [.int z, .ref a]) hT)
      refine ⟨T, _, rfl, SqT.of upd_same, rfl, .int z, [.ref a], rfl, .ref a, [], rfl, rfl, ?_⟩
      refine ⟨_, rfl, .ref t2, rfl, .int z, rfl, t2, us, z, rfl, SqT.of (s2 _ _ e2), by omega, hu, hb.1, by omega, fun H2 s3 => ?_⟩
      refine ⟨wnum us (ws.take i) (wy.take i), cnt z us, rfl, rfl, .inr (cnt_small hb.1 hb.2 hu (by omega)), ?_⟩
      have s4 := s2.trans s3
      refine ⟨.ref t2, rfl, .int z, rfl, .ref a, rfl, t2, a, b, us, z, p, rfl, s4 _ _ e2, s4 _ _ ea, s4 _ _ eb, by omega, hu, hb.1, by omega, hok.2 i p z gw hz, fun H3 s5 => ?_⟩
      refine ⟨_, _, rfl, rfl, ?_⟩
      exact ⟨_, _, by rw [wnum_take hz gw]; rfl, s4.trans s5⟩
    · obtain ⟨y4, y5, rfl, s1⟩ := h
      rw [List.length_map, List.take_length, ← hok.1, List.take_length]
      exact ⟨_, rfl, q _ s1⟩
def ext (n : Nat) (r : List Int) : List (List Int) := (List.range n).map fun (t : Nat) => r ++ [(t : Int)]
theorem flat_len (n : Nat) : ∀ l : List (List Int), (l.flatMap (ext n)).length = l.length * n
  | [] => by simp
  | r :: l => by
    have ih := flat_len n l
    rw [List.flatMap_cons, List.length_append, ih]
    unfold ext
    rw [List.length_map, List.length_range, List.length_cons, Nat.add_mul]
    omega
/-! ### rising_things -/
def spRise : Sp := fun vs H Q _ => ∃ (wl n : Nat), vs = [.int (wl : Int), .int (n : Int)] ∧ wl ≤ 12 ∧ n ≤ 1000 ∧ n ^ wl ≤ 2000 ∧ ∀ R xs H', Same H H' → H R = none → H' R = some (.lst xs) → Tups H' xs (rows n wl) → Q (.ref R) H'
theorem ok_rise {f : Addr} {fd : FuncData} {k : Nat} (F : Fun K "rising_things" "rising_things" sRise f fd) (mr : mg "range" = none) : FnOk P w K mg base CX0 (k + 1) f fd ["wells", "number"] spRise := by
  refine F.ok scRise (fun vs H Q E h => ?_) (fun cdv A outer s H vs Q E hr h => ?_)
  · obtain ⟨wl, n, rfl, _⟩ := h
    rfl
  · obtain ⟨wl, n, rfl, hw, hn, hp, q⟩ := h
    refine ⟨_, pss_cons (ps_set (i := 2) scRise.nd rfl (.inl rfl) (pe_lst (pa_cons (pe_tup pa_nil) pa_nil)))
      (pss_cons (ps_for PassesOwn.never rfl (pi_range1 rfl mr (pa_cons (pv 0) pa_nil)) (pg_name (i := 3) scRise.nd rfl (.inl rfl))
        (pss_one (ps_setLc2 (i := 2) (own := [("row", 4), ("thing", 5)]) (vs1 := [5]) (g := gName 4) (tt := tYes) (g1 := gName 5) (tt1 := tYes) (te := tOp (rCatA K) (tVar 4) (tTup (tCons (tVar 5) tNil))) rfl scRise.nd rfl rfl (sw_true rfl rfl rfl (by decide +kernel)) (pi_list (pv 2)) (blkOk_by (N := ["wells", "number", "rows", "well", "row", "thing"]) (sc := defScope sRise) (by decide +kernel)) (by decide)
          (fun _ _ _ _ _ => pg_name (i := 4) scRise.nd rfl (Or.inl rfl)) (fun _ _ _ _ _ => pts_nil) (fun _ _ _ _ _ => pi_range1 rfl mr (pa_cons (pv 1) pa_nil)) (fun _ _ _ _ _ => pg_name (i := 5) scRise.nd rfl (Or.inl rfl)) (fun _ _ _ _ _ => pts_nil)
          (fun _ _ _ _ _ => pe_op op_catA (pv 4) (pe_tup (pa_cons (pv 5) pa_nil))))))
      (pss_one (ps_ret (pv 2)))), ?_⟩
    refine ⟨Nat.zero_le _, fun e0 h0 => ⟨(show 1 ≤ sizeLine by decide), fun R0 hR0 => ?_⟩⟩
    have sm0 : Same H (upd (upd H e0 (.tup [])) R0 (.lst [.ref e0])) := (same_upd h0).trans (same_upd hR0)
    refine ⟨.int (wl : Int), rfl, (wl : Int), rfl, by omega, by omega, for_range (lo := 0) (n := ((wl : Int)).toNat) (fun i σ H1 => ∃ R y3 xs, σ = [some (.int (wl : Int)), some (.int (n : Int)), some (.ref R), y3, none, none] ∧ Same H H1 ∧ H R = none ∧ H1 R = some (.lst xs) ∧ Tups H1 xs (rows n i)) ?_ (fun i σ H1 hi h => ?_) (fun σ H1 h => ?_)⟩
    · refine ⟨R0, none, [.ref e0], rfl, sm0, (same_upd h0).free hR0, upd_same, rfl, fun i x r h1 h2 => ?_⟩
      have hi : i = 0 := by
        have := (List.getElem?_eq_some_iff.mp h1).1
        have e : ([V.ref e0] : List V).length = 1 := rfl
        omega
      subst hi
      cases h1
      cases h2
      exact ⟨e0, rfl, same_upd hR0 _ _ upd_same⟩
    · obtain ⟨R, y3, xs, rfl, sm, fR, eR, tR⟩ := h
      have hp1 : n ^ (i + 1) ≤ 2000 := pow_le_of (by omega) hp
      refine ⟨.ref R, rfl, R, rfl, ⟨_, SqL.of eR⟩, fun D hD => out_list (K := K) (a := R) (xs := xs) (fun j H2 => Same H H2 ∧ H2 R = some (.lst xs) ∧ Tups H2 xs (rows n i) ∧ ∃ acc, H2 D = some (.lst acc) ∧ Tups H2 acc (((rows n i).take j).flatMap (ext n))) ?_ (fun j H2 _ h => SqL.of h.2.1) (fun j x H2 hx h => ?_) (fun H2 h => ?_)⟩
      · refine ⟨sm.trans (same_upd hD), same_upd hD _ _ eR, tR.keep (.of_same (same_upd hD)), [], upd_same, rfl, fun i x r h1 _ => by simp at h1⟩
      · obtain ⟨sm2, eR2, tR2, acc, eD, tD⟩ := h
        have hjl : j < xs.length := (List.getElem?_eq_some_iff.mp hx).1
        have hjr : j < (rows n i).length := by rw [← tR2.1]; exact hjl
        have gr : (rows n i)[j]? = some (rows n i)[j] := List.getElem?_eq_getElem hjr
        obtain ⟨a, rfl, ea⟩ := tR2.2 j x _ hx gr
        generalize er : (rows n i)[j] = r at gr ea
        have nDR : D ≠ R := fun z => by
          rw [z, eR] at hD
          cases hD
        have fD : H D = none := sm.free hD
        refine ⟨rfl, .int (n : Int), rfl, (n : Int), rfl, by omega, by omega, in_range (n := ((n : Int)).toNat) (fun t H3 => Same H H3 ∧ H3 R = some (.lst xs) ∧ Tups H3 xs (rows n i) ∧ H3 a = some (.tup (r.map V.int)) ∧ ∃ acc, H3 D = some (.lst acc) ∧ Tups H3 acc (((rows n i).take j).flatMap (ext n) ++ (List.range t).map fun (t : Nat) => r ++ [(t : Int)])) ?_ (fun t H3 ht h => ?_) (fun H3 h => ?_)⟩
        · exact ⟨sm2, eR2, tR2, ea, acc, eD, by simpa using tD⟩
        · obtain ⟨sm3, eR3, tR3, ea3, acc3, eD3, tD3⟩ := h
          have hlen : acc3.length ≤ 2000 := by
            rw [tD3.1, List.length_append, flat_len, List.length_map, List.length_range, List.length_take, Nat.min_eq_left (Nat.le_of_lt hjr)]
            have h2 : (j + 1) * n ≤ n ^ i * n := Nat.mul_le_mul_right n (by rw [← rows_len]; exact hjr)
            rw [Nat.add_mul] at h2
            have e2 : n ^ (i + 1) = n ^ i * n := Nat.pow_succ n i
            have h3 : t < n := by omega
            omega
          have fin : ∀ (y : Addr) (H4 : Hp), Same H3 H4 → H4 y = some (.tup ((r ++ [(t : Int)]).map V.int)) → ∃ acc, H4 D = some (.lst acc) ∧ acc.length < sizeLine ∧ (Same H (upd H4 D (.lst (acc ++ [.ref y]))) ∧ (upd H4 D (.lst (acc ++ [.ref y]))) R = some (.lst xs) ∧ Tups (upd H4 D (.lst (acc ++ [.ref y]))) xs (rows n i) ∧ (upd H4 D (.lst (acc ++ [.ref y]))) a = some (.tup (r.map V.int)) ∧ ∃ acc', (upd H4 D (.lst (acc ++ [.ref y]))) D = some (.lst acc') ∧ Tups (upd H4 D (.lst (acc ++ [.ref y]))) acc' (((rows n i).take j).flatMap (ext n) ++ (List.range (t + 1)).map fun (t : Nat) => r ++ [(t : Int)])) := fun y H4 s4 ey => by
            have e4 := s4 _ _ eD3
            have k4 := keep_lst (acc' := acc3 ++ [.ref y]) e4
            refine ⟨acc3, e4, small2000 (by omega), fun b o e => ?_, ?_, (tR3.keep (.of_same s4)).keep k4, k4 _ _ (s4 _ _ ea3), _, upd_same, ?_⟩
            · rw [upd_ne (ne_of_none e fD)]
              exact s4 _ _ (sm3 _ _ e)
            · rw [upd_ne nDR.symm]
              exact s4 _ _ eR3
            · rw [List.range_succ, List.map_append, ← List.append_assoc]
              exact ((tD3.keep (.of_same s4)).keep k4).push (k4 _ _ ey)
          refine ⟨rfl, .ref a, rfl, .int (0 + (t : Int)), rfl, (show 1 ≤ sizeLine by decide), fun z hz => ?_⟩
          rw [Int.zero_add]
          refine ⟨a, z, r.map V.int, [.int (t : Int)], rfl, rfl, SqT.of (same_upd hz _ _ ea3), SqT.of upd_same, ?_, fun e => ?_, (fun _ e => by cases e), fun _ _ y hy => ?_⟩
          · have hrm : r ∈ rows n i := List.mem_of_getElem? gr
            rw [List.length_map, (rows_mem hrm).1]
            exact Nat.le_of_lt (small2000 (show i + 1 ≤ 3000 by omega))
          · have er0 : r = [] := List.map_eq_nil_iff.mp e
            refine fin z _ (same_upd hz) ?_
            rw [er0]
            exact upd_same
          · refine fin y _ ((same_upd hz).trans (same_upd hy)) ?_
            rw [upd_same, List.map_append]
            rfl
        · obtain ⟨sm3, eR3, tR3, ea3, acc3, eD3, tD3⟩ := h
          refine ⟨sm3, eR3, tR3, acc3, eD3, ?_⟩
          rw [List.take_add_one, gr, List.flatMap_append]
          simpa [ext] using tD3
      · obtain ⟨sm2, eR2, tR2, acc, eD, tD⟩ := h
        rw [tR2.1, List.take_length] at tD
        exact ⟨D, _, acc, rfl, sm2, sm.free hD, eD, tD⟩
    · obtain ⟨R, y3, xs, rfl, sm, fR, eR, tR⟩ := h
      rw [Int.toNat_natCast] at tR
      exact ⟨.ref R, rfl, q R xs H1 sm fR eR tR⟩
def spAll (C : Addr) : Sp := fun vs H Q E => ∃ (t : Addr) (ws : List Int) (n : Nat), vs = [.ref t, .int (n : Int)] ∧ H t = some (.tup (ws.map V.int)) ∧ ws.length ≤ 60 ∧ (∀ x ∈ ws, 0 ≤ x ∧ x ≤ 12) ∧ n ≤ 1000 ∧
  (2000 < cnt (n : Int) ws → ∀ H', Same H H' → E (.ref C) none H') ∧ (¬ 2000 < cnt (n : Int) ws → ∀ R xs H', Same H H' → H R = none → H' R = some (.lst xs) → Pairs H' xs (fills n ws ws.length) → Q (.ref R) H')
theorem ok_all {f fT fM fR C : Addr} {fd fdT fdM fdR : FuncData} {tf : Tok} {k : Nat} (F : Fun K "all_fillings" "all_fillings" sAll f fd)
    (FT : Fun K "how_many_of_tray" "how_many_of_tray" sTray fT fdT) (bT : Binds K fdT ["wells", "number"] []) (gT : mg "how_many_of_tray" = some (.ref fT))
    (FM : Fun K "how_many" "how_many" sMany fM fdM) (bM : Binds K fdM ["crate", "number"] []) (gM : mg "how_many" = some (.ref fM))
    (FR : Fun K "rising_things" "rising_things" sRise fR fdR) (bR : Binds K fdR ["wells", "number"] []) (gR : mg "rising_things" = some (.ref fR))
    (gF : mg "MOST_FILLINGS" = some (.int 2000 tf)) (TC : ErrTxt K mg "TooMany" C) (xC : ∃ bm, PySem.W.excIn K C [.type "ValueError", .type "Exception", .type "BaseException", .type "object"] "ValueError.__new__" = true ∧ bm = true)
    (mx : mg "max" = none) (mr : mg "range" = none) (ms : mg "sum" = none) (men : mg "enumerate" = none) : FnOk P w K mg base (L2.CX P w) (k + 2 + 1) f fd ["crate", "number"] (spAll C) := by
  have GM : FnOk P w K mg base CX0 2 fM fdM ["crate", "number"] (spMany K) := ok_many FM FT bT gT mx mr ms
  have GR : FnOk P w K mg base CX0 1 fR fdR ["wells", "number"] spRise := ok_rise FR mr
  obtain ⟨_, xP, _⟩ := xC
  refine F.okX scAll (fun vs H Q E h => ?_) (fun cdv A outer s H vs Q E hr h => ?_)
  · obtain ⟨t, ws, n, rfl, _⟩ := h
    rfl
  · obtain ⟨t, ws, n, rfl, ht, hl, hw, hn, qE, q⟩ := h
    have hr1 : Room 1 _ := hr.mono (by omega)
    have hr2 : Room 2 _ := hr.mono (by omega)
    refine ⟨_, pss_cons (ps_if (pt_cmpR op_gt (pe_call GM hr2 (by rfl) gM FM.kp bM .nil pass0 (pa_cons (pv 0) (pa_cons (pv 1) pa_nil))) (pe_glob (v := .int 2000) rfl gF ⟨_, rfl⟩) (nomark _))
        (pss_one (ps_raise rfl (takes_of rfl rfl rfl rfl) (pmk_own PySem.F.excBase_ValueError xP TC.g TC.k (raises_own TC.b TC.t) rfl))) pss_nil)
      (PSs.nox (pss_cons (ps_set (i := 2) scAll.nd rfl (.inl rfl) (pe_lst pa_nil))
      (pss_cons (ps_for PassesOwn.never rfl (pi_enumT rfl men (pa_cons (pv 0) pa_nil)) (pg_tup rfl (pgs_cons (pg_name (i := 3) scAll.nd rfl (.inl rfl)) (pgs_cons (pg_name (i := 4) scAll.nd rfl (.inl rfl)) pgs_nil)))
        (pss_one (ps_for PassesOwn.never rfl (pi_list (pe_call GR hr1 (by rfl) gR FR.kp bR .nil pass0 (pa_cons (pv 4) (pa_cons (pv 1) pa_nil)))) (pg_name (i := 5) scAll.nd rfl (.inl rfl))
          (pss_one (ps_expr (pe_bm PySem.F.plainAttrs_list PySem.F.slot_list_append PySem.F.type_list_append mt_append (pv 2) (pa_cons (pe_tup (pa_cons (pv 3) (pa_cons (pv 5) pa_nil))) pa_nil)))))))
      (pss_one (ps_ret (pv 2)))))), ?_⟩
    have n0 : (0 : Int) ≤ (n : Int) := by omega
    refine ⟨.ref t, rfl, .int (n : Int), rfl, t, ws, (n : Int), rfl, SqT.of ht, by omega, hw, n0, by omega, fun H1 s1 => ?_⟩
    refine ⟨_, _, rfl, rfl, _, rfl, ite2 (fun c0 => ?_) (fun c0 => ?_)⟩
    · exact qE (of_decide_eq_true c0) H1 s1
    · have c1 : ¬ 2000 < cnt (n : Int) ws := fun z => c0 (decide_eq_true z)
      have ht1 := s1 _ _ ht
      refine ⟨Nat.zero_le _, fun R hR => ?_⟩
      have nRt : t ≠ R := ne_of_none ht1 hR
      refine ⟨.ref t, rfl, t, ws.map V.int, rfl, SqT.of (same_upd hR _ _ ht1), for_enumT (K := K) (xs := ws.map V.int) (fun i σ H2 => ∃ y3 y4 y5 xs, σ = [some (.ref t), some (.int (n : Int)), some (.ref R), y3, y4, y5] ∧ Same H H2 ∧ H2 R = some (.lst xs) ∧ Pairs H2 xs (fills n ws i)) ?_ (fun i σ H2 _ h => ?_) (fun i x σ H2 T hx h hT => ?_) (fun σ H2 h => ?_)⟩
      · exact ⟨none, none, none, [], rfl, s1.trans (same_upd hR), upd_same, rfl, fun i x p h1 _ => by simp at h1⟩
      · obtain ⟨y3, y4, y5, xs, rfl, s2, eR, pR⟩ := h
        exact SqT.of (s2 _ _ ht)
      · obtain ⟨y3, y4, y5, xs, rfl, s2, eR, pR⟩ := h
        obtain ⟨wl, hwl, rfl⟩ := map_get hx
        have hil : i < ws.length := (List.getElem?_eq_some_iff.mp hwl).1
        have hb := hw wl (List.mem_of_getElem? hwl)
        have hpow : n ^ wl.toNat ≤ 2000 := by
          have z := cnt_term n0 hwl
          have z2 : ((n ^ wl.toNat : Nat) : Int) ≤ 2000 := by
            rw [Int.natCast_pow]
            omega
          omega
        have ewl : wl = ((wl.toNat : Nat) : Int) := by omega
        have s3 : Same H2 (upd H2 T (.tup [.int (i : Int), .int wl])) := same_upd hT
        refine ⟨T, _, rfl, SqT.of upd_same, rfl, .int (i : Int), [.int wl], rfl, .int wl, [], rfl, rfl, ?_⟩
        refine ⟨.int wl, rfl, .int (n : Int), rfl, wl.toNat, n, by rw [← ewl]; rfl, by omega, hn, hpow, fun L ys H3 s4 fL eL tL => ?_⟩
        have fR : H R = none := s1.free hR
        have hRows : one n ws i = (rows n wl.toNat).map fun r => ((i : Int), r) := by
          unfold one
          rw [List.getD_eq_getElem?_getD, hwl]
          rfl
        have hlen : ((fills n ws i).length : Int) + ((n ^ wl.toNat : Nat) : Int) ≤ 2000 := by
          have z := fills_len (n := n) (ws := ws) (i := i + 1) hil
          rw [fills_succ, List.length_append, hRows, List.length_map, rows_len] at z
          have z2 := cnt_take_le n0 ws (i + 1)
          omega
        have nLR : L ≠ R := fun z => by
          rw [z, s3 _ _ eR] at fL
          cases fL
        refine ⟨L, rfl, ⟨_, SqL.of eL⟩, for_list (K := K) (xs := ys) (fun j σ H4 => ∃ y5 xs, σ = [some (.ref t), some (.int (n : Int)), some (.ref R), some (.int (i : Int)), some (.int wl), y5] ∧ Same H H4 ∧ H4 L = some (.lst ys) ∧ Tups H4 ys (rows n wl.toNat) ∧ H4 R = some (.lst xs) ∧ Pairs H4 xs (fills n ws i ++ ((rows n wl.toNat).take j).map fun r => ((i : Int), r))) ?_ (fun j σ H4 _ h => ?_) (fun j y σ H4 hy h => ?_) (fun σ H4 h => ?_)⟩
        · refine ⟨y5, xs, rfl, (s2.trans s3).trans s4, eL, tL, s4 _ _ (s3 _ _ eR), ?_⟩
          simpa using (pR.keep (.of_same s3)).keep (.of_same s4)
        · obtain ⟨z5, xs4, rfl, s5, eL4, tL4, eR4, pR4⟩ := h
          exact SqL.of eL4
        · obtain ⟨z5, xs4, rfl, s5, eL4, tL4, eR4, pR4⟩ := h
          have hjl : j < (rows n wl.toNat).length := by
            rw [← tL4.1]
            exact (List.getElem?_eq_some_iff.mp hy).1
          have gr : (rows n wl.toNat)[j]? = some (rows n wl.toNat)[j] := List.getElem?_eq_getElem hjl
          obtain ⟨b, rfl, eb⟩ := tL4.2 j y _ hy gr
          refine ⟨.ref R, rfl, .inl ⟨rfl, _, SqL.of eR4⟩, .int (i : Int), rfl, .ref b, rfl, (show 2 ≤ sizeLine by decide), fun u hu => ?_⟩
          have eR5 := same_upd (o := .tup [.int (i : Int), .ref b]) hu _ _ eR4
          refine ⟨R, xs4, .ref u, rfl, rfl, eR5, ?_, ?_⟩
          · rw [pR4.1, List.length_append, List.length_map, List.length_take, Nat.min_eq_left (Nat.le_of_lt hjl)]
            rw [rows_len] at hjl
            exact small2000 (by omega)
          · have k5 := keep_lst (acc' := xs4 ++ [.ref u]) eR5
            have k6 : KeepT H4 (upd H4 u (.tup [.int (i : Int), .ref b])) := .of_same (same_upd hu)
            refine ⟨_, _, rfl, fun c o e => ?_, ?_, (tL4.keep k6).keep k5, upd_same, ?_⟩
            · rw [upd_ne (ne_of_none e fR)]
              exact same_upd hu _ _ (s5 _ _ e)
            · rw [upd_ne nLR]
              exact same_upd hu _ _ eL4
            · rw [List.take_add_one, gr, List.map_append, ← List.append_assoc]
              exact Pairs.push (p := ((i : Int), (rows n wl.toNat)[j])) ((pR4.keep k6).keep k5) (k5 _ _ upd_same) (k5 _ _ (k6 _ _ eb))
        · obtain ⟨z5, xs4, rfl, s5, eL4, tL4, eR4, pR4⟩ := h
          refine ⟨_, _, _, xs4, rfl, s5, eR4, ?_⟩
          rw [tL4.1, List.take_length, ← hRows, ← fills_succ] at pR4
          exact pR4
      · obtain ⟨y3, y4, y5, xs, rfl, s2, eR, pR⟩ := h
        rw [List.length_map] at pR
        exact ⟨.ref R, rfl, q c1 R xs H2 s2 (s1.free hR) eR pR⟩
end
section
variable {P : Program} {w : World} {K : PySem.W.Frag} {mg : Str → Option Value} {base : Heap}
/-! ### plain -/
def spPlain : Sp := fun vs H Q _ => ∃ (t : Addr) (ws : List Int) (i : Nat) (x : Int), vs = [.ref t, .int (i : Int)] ∧ H t = some (.tup (ws.map V.int)) ∧ ws[i]? = some x ∧ 0 ≤ x ∧ x ≤ 1000 ∧ ∀ a b H', Same H H' → H a = none → H' a = some (.tup [.int (i : Int), .ref b]) → H' b = some (.tup ((iota x).map V.int)) → Q (.ref a) H'
theorem ok_plain {f : Addr} {fd : FuncData} {k : Nat} (F : Fun K "plain" "plain" sPlain f fd) (mt : mg "tuple" = none) (mr : mg "range" = none) : FnOk P w K mg base CX0 (k + 1) f fd ["crate", "tray"] spPlain := by
  refine F.ok scPlain (fun vs H Q E h => ?_) (fun cdv A outer s H vs Q E hr h => ?_)
  · obtain ⟨t, ws, i, x, rfl, _⟩ := h
    rfl
  · obtain ⟨t, ws, i, x, rfl, ht, hx, x0, x1, q⟩ := h
    refine ⟨_, pss_one (ps_ret (pe_tup (pa_cons (pv 1) (pa_cons (pe_tupRg rfl (by rfl) mt (prg_1 (by rfl) mr (pe_ix ix_tup (pv 0) (pv 1) (fun _ _ => rfl)))) pa_nil)))), ?_⟩
    refine ⟨.int (i : Int), rfl, .ref t, rfl, .int (i : Int), rfl, t, _, (i : Int), .int x, rfl, rfl, SqT.of ht, atI_nat (by rw [List.getElem?_map, hx]; rfl), x, rfl, RgOk.of_le (by decide) (by omega) (by decide) x0, fun b hb => ?_⟩
    refine ⟨(show 2 ≤ sizeLine by decide), fun a ha => ?_⟩
    rw [rg_iota] at ha ⊢
    exact q a b _ ((same_upd hb).trans (same_upd ha)) ((same_upd hb).free ha) upd_same (same_upd ha _ _ upd_same)
/-! ### turned -/
theorem ok_turned {f : Addr} {fd : FuncData} {k : Nat} (F : Fun K "turned" "turned" sTurned f fd) (mt : mg "tuple" = none) : FnOk P w K mg base CX0 (k + 1) f fd ["way", "filling"] spTurned := by
  refine F.ok scTurned (fun vs H Q E h => ?_) (fun cdv A outer s H vs Q E hr h => ?_)
  · obtain ⟨wv, f, c, s, xs, wy, p, rfl, _⟩ := h
    rfl
  · obtain ⟨wv, f, c, s', xs, wy, p, rfl, hW, ef, ec, s0, gp, hb, hl, q⟩ := h
    obtain ⟨zs, ew, hP⟩ := hW
    have hil : s'.toNat < wy.length := (List.getElem?_eq_some_iff.mp gp).1
    have hzl : s'.toNat < zs.length := by rw [hP.1]; exact hil
    obtain ⟨z, gz⟩ : ∃ z, zs[s'.toNat]? = some z := ⟨zs[s'.toNat]'hzl, List.getElem?_eq_getElem hzl⟩
    obtain ⟨a, b, ez, ea, eb⟩ := hP.2 _ _ _ gz gp
    refine ⟨_, (pss_cons (ps_asg (pv 1) (pg_tup rfl (pgs_cons (pg_name (i := 2) scTurned.nd rfl (Or.inl rfl)) (pgs_cons (pg_name (i := 3) scTurned.nd rfl (Or.inr rfl)) pgs_nil))))
      (pss_cons (ps_asg (pe_ix ix_tup (pv 0) (pv 2) (fun _ _ => rfl)) (pg_tup rfl (pgs_cons (pg_name (i := 4) scTurned.nd rfl (Or.inl rfl)) (pgs_cons (pg_name (i := 5) scTurned.nd rfl (Or.inl rfl)) pgs_nil))))
      (pss_one (ps_ret (pe_tup (pa_cons (pv 4) (pa_cons (pe_callTy call_tuple_of (by rfl) mt (by decide +kernel) (pa_cons (pe_lc (own := [("well", 6)]) (g := gName 6) (tt := tYes) (te := (tOp (rIxT K) (tVar 3) (tVar 6))) rfl scTurned.nd (pi_tup (pv 5)) (blkOk_by (N := ["way", "filling", "source", "things", "tray", "wells", "well"]) (sc := defScope sTurned) (by decide +kernel)) (fun _ _ _ _ _ => (pg_name (i := 6) scTurned.nd rfl (Or.inl rfl))) (fun _ _ _ _ _ => pts_nil) (fun _ _ _ _ _ => (pe_ix ix_tup (pv 3) (pv 6) (fun _ _ => rfl)))) pa_nil)) pa_nil))))))), ?_⟩
    refine ⟨.ref f, rfl, f, _, rfl, SqT.of ef, rfl, .int s', [.ref c], rfl, .ref c, [], rfl, rfl, ?_⟩
    refine ⟨.ref wv, rfl, .int s', rfl, wv, _, s', .ref a, rfl, rfl, SqT.of ew, at_of (j := s'.toNat) (by omega) (by rw [gz, ez]), ?_⟩
    refine ⟨a, _, rfl, SqT.of ea, rfl, .int p.1, [.ref b], rfl, .ref b, [], rfl, rfl, ?_⟩
    refine ⟨.int p.1, rfl, .ref b, rfl, b, rfl, ⟨_, SqT.of eb⟩, fun D hD => lc_tup (K := K) (a := b) (xs := p.2.map V.int) (fun i H1 => Same H H1 ∧ H1 D = some (.lst (pickV xs (p.2.take i)))) ⟨same_upd hD, upd_same⟩ (fun i H1 _ h => SqT.of (h.1 _ _ eb)) (fun i x H1 hx h => ?_) (fun H1 h => ?_)⟩
    · obtain ⟨y, hy, rfl⟩ := map_get hx
      obtain ⟨y0, y1⟩ := hb y (List.mem_of_getElem? hy)
      refine ⟨rfl, .ref c, rfl, .int y, rfl, c, xs, y, _, rfl, rfl, SqT.of (h.1 _ _ ec), pickV_at y0 y1, _, h.2, ?_, Same.of_lst h.1 hD, ?_⟩
      · rw [pickV_len, List.length_take]
        exact small1000 (by omega)
      · rw [upd_same, List.take_add_one, hy]
        unfold pickV
        rw [List.map_append]
        rfl
    · obtain ⟨s1, e1⟩ := h
      rw [List.length_map, List.take_length] at e1
      refine ⟨D, _, rfl, .inl ⟨SqL.of e1, fun u hu => ?_⟩⟩
      refine ⟨(show 2 ≤ sizeLine by decide), fun v hv => ?_⟩
      have s2 := same_upd (o := .tup (pickV xs p.2)) hu
      exact q v u _ ((s1.trans s2).trans (same_upd hv)) ((s1.trans s2).free hv) upd_same (same_upd hv _ _ upd_same)
/-! ### is_whole -/
def spIsWhole : Sp := fun vs H Q _ => ∃ (N : Addr → Prop) (x : V) (d : PyData), vs = [x] ∧ Dq N H x d ∧ Q (.bl (wholeD d)) H
theorem ok_isWhole {f : Addr} {fd : FuncData} {k : Nat} (F : Fun K "is_whole" "is_whole" sIsWhole f fd) (mi : mg "isinstance" = none) (mint : mg "int" = none) (mbool : mg "bool" = none) : FnOk P w K mg base CX0 (k + 1) f fd ["thing"] spIsWhole := by
  refine F.ok scIsWhole (fun vs H Q E h => ?_) (fun cdv A outer s H vs Q E hr h => ?_)
  · obtain ⟨N, x, d, rfl, _⟩ := h
    rfl
  · obtain ⟨N, x, d, rfl, hx, q⟩ := h
    refine ⟨_, (pss_one (ps_ret (pe_and (pe_callB call_isi (by rfl) mi (by decide +kernel) (pa_cons (pv 0) (pa_cons (pe_bltn (v := .ty "int") (by rfl) mint (by decide +kernel) rfl) pa_nil))) (pe_one (pe_not (pe_callB call_isi (by rfl) mi (by decide +kernel) (pa_cons (pv 0) (pa_cons (pe_bltn (v := .ty "bool") (by rfl) mbool (by decide +kernel) rfl) pa_nil)))))))), ?_⟩
    have nd := dq_nodict hx
    rw [← whole_eq] at q
    refine ⟨x, rfl, _, _, _, _, intD d, rfl, .ty "int", dq_ty hx, kit_ty (kit_intD nd), intD d, rfl, ?_⟩
    cases hi : intD d with
    | false =>
      rw [hi] at q
      exact iteF q
    | true =>
      rw [hi] at q
      refine iteT ?_
      exact ⟨x, rfl, _, _, _, _, boolD d, rfl, .ty "bool", dq_ty hx, kit_ty (kit_boolD nd), boolD d, rfl, by rw [Bool.true_and] at q; exact q⟩
/-! ### is_below -/
def spBelow : Sp := fun vs H Q _ => ∃ (N : Addr → Prop) (x : V) (d : PyData) (b : Int), vs = [x, .int b] ∧ Dq N H x d ∧ Q (.bl (wellD b d)) H
theorem ok_below {f fW : Addr} {fd fdW : FuncData} {k : Nat} (F : Fun K "is_below" "is_below" sBelow f fd) (FW : Fun K "is_whole" "is_whole" sIsWhole fW fdW) (bW : Binds K fdW ["thing"] []) (gW : mg "is_whole" = some (.ref fW)) (mi : mg "isinstance" = none) (mint : mg "int" = none) (mbool : mg "bool" = none) : FnOk P w K mg base CX0 (k + 1 + 1) f fd ["thing", "bound"] spBelow := by
  have GW : FnOk P w K mg base CX0 (k + 1) fW fdW ["thing"] spIsWhole := ok_isWhole FW mi mint mbool
  refine F.ok scBelow (fun vs H Q E h => ?_) (fun cdv A outer s H vs Q E hr h => ?_)
  · obtain ⟨N, x, d, b, rfl, _⟩ := h
    rfl
  · obtain ⟨N, x, d, b, rfl, hx, q⟩ := h
    refine ⟨_, (pss_one (ps_ret (pe_and (pe_call GW hr (by rfl) gW FW.kp bW .nil pass0 (pa_cons (pv 0) pa_nil)) (pe_one (pe_chain op_le op_lt pe_int (pv 0) (pv 1)))))), ?_⟩
    refine ⟨x, rfl, N, x, d, rfl, hx, wholeD d, rfl, ?_⟩
    cases hwd : wholeD d with
    | false =>
      rw [well_whole hwd] at q
      exact iteF q
    | true =>
      obtain ⟨y, rfl, rfl⟩ := wholeD_int hx hwd
      refine iteT ?_
      have e : wellD b (.int y) = (decide (0 ≤ y) && decide (y < b)) := rfl
      rw [e] at q
      refine ⟨.int y, rfl, 0, y, rfl, rfl, _, rfl, ?_⟩
      by_cases y0 : 0 ≤ y
      · rw [decide_eq_true y0] at q ⊢
        refine iteT ⟨.int b, rfl, y, b, rfl, rfl, ?_⟩
        rw [Bool.true_and] at q
        exact q
      · rw [decide_eq_false y0] at q ⊢
        rw [Bool.false_and] at q
        exact q
/-! ### is_pair -/
def spIsPair : Sp := fun vs H Q _ => ∃ (N : Addr → Prop) (x : V) (d : PyData), vs = [x] ∧ Dq N H x d ∧ Q (.bl (pairT d)) H
theorem ok_isPair {f : Addr} {fd : FuncData} {k : Nat} (F : Fun K "is_pair" "is_pair" sIsPair f fd) (mi : mg "isinstance" = none) (mt : mg "tuple" = none) (mlen : mg "len" = none) : FnOk P w K mg base CX0 (k + 1) f fd ["thing"] spIsPair := by
  refine F.ok scIsPair (fun vs H Q E h => ?_) (fun cdv A outer s H vs Q E hr h => ?_)
  · obtain ⟨N, x, d, rfl, _⟩ := h
    rfl
  · obtain ⟨N, x, d, rfl, hx, q⟩ := h
    refine ⟨_, (pss_one (ps_ret (pe_and (pe_callB call_isi (by rfl) mi (by decide +kernel) (pa_cons (pv 0) (pa_cons (pe_bltn (v := .ty "tuple") (by rfl) mt (by decide +kernel) rfl) pa_nil))) (pe_one (pe_cmpR op_eq (pe_callB call_len_seq (by rfl) mlen PySem.boot_len (pa_cons (pv 0) pa_nil)) pe_int (nomark _)))))), ?_⟩
    have nd := dq_nodict hx
    refine ⟨x, rfl, _, _, _, _, tupD d, rfl, .ty "tuple", dq_ty hx, kit_ty (kit_tupD nd), tupD d, rfl, ?_⟩
    cases htd : tupD d with
    | false =>
      have e : pairT d = false := by cases d <;> first | rfl | cases htd
      rw [e] at q
      exact iteF q
    | true =>
      obtain ⟨a, xs, ds, rfl, rfl, ea, hxs⟩ := tupD_tup hx htd
      refine iteT ⟨.ref a, rfl, a, xs, rfl, .inr (SqT.of ea), rfl, ?_⟩
      have e : decide (V.int (xs.length : Int) = V.int 2) = pairT (.tuple ds) := by
        show _ = decide (ds.length = 2)
        rw [hxs.len]
        by_cases h : ds.length = 2
        · rw [decide_eq_true h, h]
          rfl
        · rw [decide_eq_false h]
          exact decide_eq_false fun e => h (by have := V.int.inj e; omega)
      rw [e]
      exact q
/-! ### fits -/
def spFits : Sp := fun vs H Q _ => ∃ (N : Addr → Prop) (t : Addr) (us : List Int) (x : V) (d : PyData), vs = [.ref t, x] ∧ H t = some (.tup (us.map V.int)) ∧ Dq N H x d ∧ Q (.bl (fitsD us d)) H
theorem ok_fits {f fW fB fP : Addr} {fd fdW fdB fdP : FuncData} {k : Nat} (F : Fun K "fits" "fits" sFits f fd) (FW : Fun K "is_whole" "is_whole" sIsWhole fW fdW) (bW : Binds K fdW ["thing"] []) (gW : mg "is_whole" = some (.ref fW))
    (FB : Fun K "is_below" "is_below" sBelow fB fdB) (bB : Binds K fdB ["thing", "bound"] []) (gB : mg "is_below" = some (.ref fB))
    (FP : Fun K "is_pair" "is_pair" sIsPair fP fdP) (bP : Binds K fdP ["thing"] []) (gP : mg "is_pair" = some (.ref fP)) (mi : mg "isinstance" = none) (mint : mg "int" = none) (mbool : mg "bool" = none) (mt : mg "tuple" = none) (mlen : mg "len" = none) : FnOk P w K mg base CX0 (k + 1 + 1 + 1) f fd ["crate", "thing"] spFits := by
  have GB : FnOk P w K mg base CX0 (k + 1 + 1) fB fdB ["thing", "bound"] spBelow := ok_below FB FW bW gW mi mint mbool
  have GP : FnOk P w K mg base CX0 (k + 1 + 1) fP fdP ["thing"] spIsPair := ok_isPair FP mi mt mlen
  refine F.ok scFits (fun vs H Q E h => ?_) (fun cdv A outer s H vs Q E hr h => ?_)
  · obtain ⟨N, t, us, x, d, rfl, _⟩ := h
    rfl
  · obtain ⟨N, t, us, x, d, rfl, et, hx, q⟩ := h
    refine ⟨_, (pss_cons (ps_if (pt_not (pt_val (pe_call GP hr (by rfl) gP FP.kp bP .nil pass0 (pa_cons (pv 1) pa_nil))))
      (pss_one (ps_ret pe_bl)) pss_nil)
      (pss_cons (ps_asg (pv 1) (pg_tup rfl (pgs_cons (pg_name (i := 2) scFits.nd rfl (Or.inl rfl)) (pgs_cons (pg_name (i := 3) scFits.nd rfl (Or.inl rfl)) pgs_nil))))
      (pss_cons (ps_if (pt_not (pt_val (pe_call GB hr (by rfl) gB FB.kp bB .nil pass0 (pa_cons (pv 2) (pa_cons (pe_callB call_len_seq (by rfl) mlen PySem.boot_len (pa_cons (pv 0) pa_nil)) pa_nil)))))
      (pss_one (ps_ret pe_bl)) pss_nil)
      (pss_one (ps_ret (pe_and (pe_callB call_isi (by rfl) mi (by decide +kernel) (pa_cons (pv 3) (pa_cons (pe_bltn (v := .ty "tuple") (by rfl) mt (by decide +kernel) rfl) pa_nil))) (pe_one (pe_cmpR op_eq (pe_callB call_len_seq (by rfl) mlen PySem.boot_len (pa_cons (pv 3) pa_nil)) (pe_ix ix_tup (pv 0) (pv 2) (fun _ _ => rfl)) (nomark _))))))))), ?_⟩
    refine ⟨x, rfl, N, x, d, rfl, hx, pairT d, rfl, ?_⟩
    cases hp : pairT d with
    | false =>
      rw [fits_pair hp] at q
      exact iteT q
    | true =>
      refine iteF ?_
      have htd : tupD d = true := by cases d <;> first | rfl | cases hp
      obtain ⟨a, xs, ds, rfl, rfl, ea, hxs⟩ := tupD_tup hx htd
      have h2 : ds.length = 2 := of_decide_eq_true hp
      match ds, h2, hxs, q with
      | [d0, d1], _, .cons (v := v0) h0 (.cons (v := v1) h1 .nil), q =>
        refine ⟨.ref a, rfl, a, _, rfl, SqT.of ea, rfl, v0, [v1], rfl, v1, [], rfl, rfl, ?_⟩
        refine ⟨v0, rfl, .ref t, rfl, t, _, rfl, .inr (SqT.of et), N, v0, d0, ((us.map V.int).length : Int), rfl, h0, _, rfl, ?_⟩
        rw [List.length_map]
        cases hb : wellD (us.length : Int) d0 with
        | false =>
          rw [fits_whole hb] at q
          exact iteT q
        | true =>
          refine iteF ?_
          have hw0 : wholeD d0 = true := by cases d0 <;> first | rfl | cases hb
          obtain ⟨i, rfl, rfl⟩ := wholeD_int h0 hw0
          have hb' : (decide (0 ≤ i) && decide (i < (us.length : Int))) = true := hb
          rw [Bool.and_eq_true] at hb'
          have i0 := of_decide_eq_true hb'.1
          have i1 := of_decide_eq_true hb'.2
          have nd := dq_nodict h1
          refine ⟨v1, rfl, _, _, _, _, tupD d1, rfl, .ty "tuple", dq_ty h1, kit_ty (kit_tupD nd), tupD d1, rfl, ?_⟩
          cases ht1 : tupD d1 with
          | false =>
            rw [fits_snd ht1] at q
            exact iteF q
          | true =>
            obtain ⟨c, zs, fs, rfl, rfl, ec, hzs⟩ := tupD_tup h1 ht1
            have gu : us[i.toNat]? = some us[i.toNat] := List.getElem?_eq_getElem (by omega)
            generalize us[i.toNat] = u at gu
            refine iteT ⟨.ref c, rfl, c, zs, rfl, .inr (SqT.of ec), .ref t, rfl, .int i, rfl, t, _, i, .int u, rfl, rfl, SqT.of et, atW i0 gu, rfl, ?_⟩
            have e : decide (V.int (zs.length : Int) = V.int u) = fitsD us (.tuple [.int i, .tuple fs]) := by
              show _ = (decide (0 ≤ i) && decide (i < (us.length : Int)) && decide (us[i.toNat]? = some ((fs.length : Nat) : Int)))
              rw [decide_eq_true i0, decide_eq_true i1, gu, hzs.len, Bool.true_and, Bool.true_and]
              by_cases h : ((fs.length : Nat) : Int) = u
              · rw [decide_eq_true (by rw [h]), decide_eq_true (by rw [h])]
              · rw [decide_eq_false fun e => h (V.int.inj e), decide_eq_false fun e => h (Option.some.inj e).symm]
            rw [e]
            exact q
/-! ### leads -/
def spLeads : Sp := fun vs H Q _ => ∃ (N : Addr → Prop) (t : Addr) (us : List Int) (y : Int) (x : V) (d : PyData), vs = [.int y, .ref t, x] ∧ H t = some (.tup (us.map V.int)) ∧ (∀ u ∈ us, u ≤ 900) ∧ Dq N H x d ∧ ∀ H', Same H H' → Q (.bl (pairD us y d)) H'
theorem ok_leads {f fW fB fP fT : Addr} {fd fdW fdB fdP fdT : FuncData} {k : Nat} (F : Fun K "leads" "leads" sLeads f fd) (FW : Fun K "is_whole" "is_whole" sIsWhole fW fdW) (bW : Binds K fdW ["thing"] []) (gW : mg "is_whole" = some (.ref fW))
    (FB : Fun K "is_below" "is_below" sBelow fB fdB) (bB : Binds K fdB ["thing", "bound"] []) (gB : mg "is_below" = some (.ref fB))
    (FP : Fun K "is_pair" "is_pair" sIsPair fP fdP) (bP : Binds K fdP ["thing"] []) (gP : mg "is_pair" = some (.ref fP))
    (FT : Fun K "fits" "fits" sFits fT fdT) (bT : Binds K fdT ["crate", "thing"] []) (gT : mg "fits" = some (.ref fT)) (mi : mg "isinstance" = none) (mint : mg "int" = none) (mbool : mg "bool" = none) (mt : mg "tuple" = none) (mlen : mg "len" = none) (mall : mg "all" = none) : FnOk P w K mg base CX0 (k + 1 + 1 + 1 + 1) f fd ["wells", "other", "thing"] spLeads := by
  have GB : FnOk P w K mg base CX0 (k + 1 + 1 + 1) fB fdB ["thing", "bound"] spBelow := ok_below FB FW bW gW mi mint mbool
  have GT : FnOk P w K mg base CX0 (k + 1 + 1 + 1) fT fdT ["crate", "thing"] spFits := ok_fits FT FW bW gW FB bB gB FP bP gP mi mint mbool mt mlen
  refine F.ok scLeads (fun vs H Q E h => ?_) (fun cdv A outer s H vs Q E hr h => ?_)
  · obtain ⟨N, t, us, y, x, d, rfl, _⟩ := h
    rfl
  · obtain ⟨N, t, us, y, x, d, rfl, et, hu9, hx, q⟩ := h
    refine ⟨_, (pss_one (ps_ret (pe_and (pe_call GT hr (by rfl) gT FT.kp bT .nil pass0 (pa_cons (pv 1) (pa_cons (pv 2) pa_nil))) (pe_one (pe_callB (cr_all rfl) (by rfl) mall (by decide +kernel) (pa_cons (pe_lc (own := [("well", 3)]) (g := gName 3) (tt := tYes) rfl scLeads.nd (pi_tup (pe_ix ix_tup (pv 2) pe_int (fun _ _ => rfl))) (blkOk_by (N := ["wells", "other", "thing", "well"]) (sc := defScope sLeads) (by decide +kernel)) (fun _ _ _ _ _ => (pg_name (i := 3) scLeads.nd rfl (Or.inl rfl))) (fun _ _ _ _ _ => pts_nil) (fun _ _ _ _ _ => (pe_call GB hr (by rfl) gB FB.kp bB .nil pass0 (pa_cons (pv 3) (pa_cons (pv 0) pa_nil))))) pa_nil)))))), ?_⟩
    refine ⟨.ref t, rfl, x, rfl, N, t, us, x, d, rfl, et, hx, fitsD us d, rfl, ?_⟩
    cases hf : fitsD us d with
    | false =>
      rw [pair_fits hf] at q
      exact iteF (q _ same_refl)
    | true =>
      refine iteT ?_
      obtain ⟨i, fs, rfl, i0, i1, gi, hp⟩ := fits_shape hf
      rw [hp] at q
      have hfl : fs.length ≤ 900 := by have := hu9 _ (List.mem_of_getElem? gi); omega
      obtain ⟨a, xs, ds, rfl, e, ea, hxs⟩ := tupD_tup hx rfl
      cases e
      match hxs with
      | .cons (v := v0) h0 (.cons (v := v1) h1 .nil) =>
        obtain ⟨c, zs, gs, rfl, e, ec, hzs⟩ := tupD_tup h1 rfl
        cases e
        refine ⟨.ref a, rfl, a, _, 1, .ref c, rfl, rfl, SqT.of ea, at1, c, rfl, ⟨_, SqT.of ec⟩, fun D hD => lc_tup (K := K) (a := c) (xs := zs) (fun i H1 => Same H H1 ∧ H1 D = some (.lst (((fs.take i).map (wellD y)).map V.bl))) ⟨same_upd hD, upd_same⟩ (fun i H1 _ h => SqT.of (h.1 _ _ ec)) (fun i v H1 hv h => ?_) (fun H1 h => ?_)⟩
        · obtain ⟨dv, gd, hdv⟩ := hzs.get hv
          refine ⟨rfl, v, rfl, .int y, rfl, N, v, dv, y, rfl, hdv.keep (Same.keepD h.1), _, h.2, ?_, Same.of_lst h.1 hD, ?_⟩
          · rw [List.length_map, List.length_map, List.length_take]
            exact small1000 (by omega)
          · rw [upd_same, List.take_add_one, gd, List.map_append, List.map_append]
            rfl
        · obtain ⟨s1, e1⟩ := h
          rw [hzs.len, List.take_length] at e1
          refine ⟨D, _, rfl, SqL.of e1, ?_⟩
          rw [List.all_map]
          exact q _ s1
/-! ### is_table -/
def spTable : Sp := fun vs H Q _ => ∃ (N : Addr → Prop) (t1 t2 : Addr) (ws us : List Int) (x : V) (d : PyData), vs = [.ref t1, .ref t2, x] ∧ H t1 = some (.tup (ws.map V.int)) ∧ H t2 = some (.tup (us.map V.int)) ∧ ws.length ≤ 900 ∧ (∀ u ∈ us, u ≤ 900) ∧ Dq N H x d ∧ ∀ H', Same H H' → Q (.bl (isWayD ws us d)) H'
theorem ok_table {f fW fB fP fT fL : Addr} {fd fdW fdB fdP fdT fdL : FuncData} {k : Nat} (F : Fun K "is_table" "is_table" sTable f fd) (FW : Fun K "is_whole" "is_whole" sIsWhole fW fdW) (bW : Binds K fdW ["thing"] []) (gW : mg "is_whole" = some (.ref fW))
    (FB : Fun K "is_below" "is_below" sBelow fB fdB) (bB : Binds K fdB ["thing", "bound"] []) (gB : mg "is_below" = some (.ref fB))
    (FP : Fun K "is_pair" "is_pair" sIsPair fP fdP) (bP : Binds K fdP ["thing"] []) (gP : mg "is_pair" = some (.ref fP))
    (FT : Fun K "fits" "fits" sFits fT fdT) (bT : Binds K fdT ["crate", "thing"] []) (gT : mg "fits" = some (.ref fT))
    (FL : Fun K "leads" "leads" sLeads fL fdL) (bL : Binds K fdL ["wells", "other", "thing"] []) (gL : mg "leads" = some (.ref fL)) (mi : mg "isinstance" = none) (mint : mg "int" = none) (mbool : mg "bool" = none) (mt : mg "tuple" = none) (mlen : mg "len" = none) (mall : mg "all" = none) (mz : mg "zip" = none) : FnOk P w K mg base CX0 (k + 1 + 1 + 1 + 1 + 1) f fd ["one", "other", "thing"] spTable := by
  have GL : FnOk P w K mg base CX0 (k + 1 + 1 + 1 + 1) fL fdL ["wells", "other", "thing"] spLeads := ok_leads FL FW bW gW FB bB gB FP bP gP FT bT gT mi mint mbool mt mlen mall
  refine F.ok scTable (fun vs H Q E h => ?_) (fun cdv A outer s H vs Q E hr h => ?_)
  · obtain ⟨N, t1, t2, ws, us, x, d, rfl, _⟩ := h
    rfl
  · obtain ⟨N, t1, t2, ws, us, x, d, rfl, e1, e2, hl1, hu9, hx, q⟩ := h
    refine ⟨_, (pss_cons (ps_if (PW.pt (pw_or (pt_not (pt_val (pe_callB call_isi (by rfl) mi (by decide +kernel) (pa_cons (pv 2) (pa_cons (pe_bltn (v := .ty "tuple") (by rfl) mt (by decide +kernel) rfl) pa_nil))))) (pw_or1 (pt_cmpR op_ne (pe_callB call_len_seq (by rfl) mlen PySem.boot_len (pa_cons (pv 2) pa_nil)) (pe_callB call_len_seq (by rfl) mlen PySem.boot_len (pa_cons (pv 0) pa_nil)) (nomark _)))))
      (pss_one (ps_ret pe_bl)) pss_nil)
      (pss_one (ps_ret (pe_callB (cr_all rfl) (by rfl) mall (by decide +kernel) (pa_cons (pe_lc (own := [("wells", 3), ("pair", 4)]) (g := gTup K 2 (gCons (gName 3) (gCons (gName 4) gNil))) (tt := tYes) rfl scTable.nd (RZ.pi_zipA (by rfl) mz (pa_cons (pv 0) (pa_cons (pv 2) pa_nil))) (blkOk_by (N := ["one", "other", "thing", "wells", "pair"]) (sc := defScope sTable) (by decide +kernel)) (fun _ _ _ _ _ => (pg_tup rfl (pgs_cons (pg_name (i := 3) scTable.nd rfl (Or.inl rfl)) (pgs_cons (pg_name (i := 4) scTable.nd rfl (Or.inl rfl)) pgs_nil)))) (fun _ _ _ _ _ => pts_nil) (fun _ _ _ _ _ => (pe_call GL hr (by rfl) gL FL.kp bL .nil pass0 (pa_cons (pv 3) (pa_cons (pv 1) (pa_cons (pv 4) pa_nil)))))) pa_nil))))), ?_⟩
    have nd := dq_nodict hx
    refine ⟨x, rfl, _, _, _, _, tupD d, rfl, .ty "tuple", dq_ty hx, kit_ty (kit_tupD nd), _, rfl, ?_⟩
    cases htd : tupD d with
    | false =>
      have e : isWayD ws us d = false := by cases d <;> first | rfl | cases htd
      rw [e] at q
      exact iteT (q _ same_refl)
    | true =>
      refine iteF ?_
      obtain ⟨a, xs, ds, rfl, rfl, ea, hxs⟩ := tupD_tup hx htd
      have hxl := hxs.len
      refine ⟨.ref a, rfl, a, xs, rfl, .inr (SqT.of ea), .ref t1, rfl, t1, _, rfl, .inr (SqT.of e1), rfl, _, rfl, ?_⟩
      by_cases hl : ds.length = ws.length
      · rw [show V.int (xs.length : Int) = V.int ((ws.map V.int).length : Int) by rw [hxl, List.length_map, hl]]
        refine iteNS rfl ?_
        have hzl : (ws.map V.int).length = xs.length := by rw [List.length_map]; omega
        refine ⟨.ref t1, rfl, .ref a, rfl, t1, a, _, _, rfl, .inr ⟨SqT.of e1, SqT.of ea, fun D hD => lc_zipT hzl (fun i H1 => Same H H1 ∧ H1 D = some (.lst ((((ws.zip ds).map fun p => pairD us p.1 p.2).take i).map V.bl))) ⟨same_upd hD, upd_same⟩ (fun i H1 h => ⟨SqT.of (h.1 _ _ e1), SqT.of (h.1 _ _ ea)⟩) (fun i y v T H1 hy hv h hT => ?_) (fun H1 h => ?_)⟩⟩
        · obtain ⟨z, hz, rfl⟩ := map_get hy
          obtain ⟨dv, gd, hdv⟩ := hxs.get hv
          have s2 := h.1.trans (same_upd (o := .tup [.int z, v]) hT)
          have e2' := same_upd (o := .tup [.int z, v]) hT _ _ h.2
          refine ⟨T, _, rfl, SqT.of upd_same, rfl, .int z, [v], rfl, v, [], rfl, rfl, rfl, .int z, rfl, .ref t2, rfl, v, rfl, N, t2, us, z, v, dv, rfl, s2 _ _ e2, hu9, hdv.keep (Same.keepD s2), fun H2 s3 => ?_⟩
          refine ⟨_, s3 _ _ e2', ?_, Same.of_lst (s2.trans s3) hD, ?_⟩
          · rw [List.length_map, List.length_take, List.length_map, List.length_zip]
            exact small1000 (by omega)
          · have gz : (ws.zip ds)[i]? = some (z, dv) := by rw [List.getElem?_zip_eq_some]; exact ⟨hz, gd⟩
            rw [upd_same, List.take_add_one, List.getElem?_map, gz, List.map_append]
            rfl
        · obtain ⟨s1, e1'⟩ := h
          rw [List.take_of_length_le (by rw [List.length_map, List.length_zip, List.length_map]; omega)] at e1'
          refine ⟨D, _, rfl, SqL.of e1', ?_⟩
          rw [isWayD_table hl] at q
          exact q _ s1
      · rw [show decide (V.int (xs.length : Int) = V.int ((ws.map V.int).length : Int)) = false from decide_eq_false fun e => hl (by have := V.int.inj e; rw [List.length_map] at this; omega)]
        have e : isWayD ws us (.tuple ds) = false := pairs_len hl
        rw [e] at q
        exact iteT (q _ same_refl)
/-! ### read_off -/
theorem ok_read {f fW fB fP fT fL fA : Addr} {fd fdW fdB fdP fdT fdL fdA : FuncData} {k : Nat} (F : Fun K "read_off" "read_off" sRead f fd) (FW : Fun K "is_whole" "is_whole" sIsWhole fW fdW) (bW : Binds K fdW ["thing"] []) (gW : mg "is_whole" = some (.ref fW))
    (FB : Fun K "is_below" "is_below" sBelow fB fdB) (bB : Binds K fdB ["thing", "bound"] []) (gB : mg "is_below" = some (.ref fB))
    (FP : Fun K "is_pair" "is_pair" sIsPair fP fdP) (bP : Binds K fdP ["thing"] []) (gP : mg "is_pair" = some (.ref fP))
    (FT : Fun K "fits" "fits" sFits fT fdT) (bT : Binds K fdT ["crate", "thing"] []) (gT : mg "fits" = some (.ref fT))
    (FL : Fun K "leads" "leads" sLeads fL fdL) (bL : Binds K fdL ["wells", "other", "thing"] []) (gL : mg "leads" = some (.ref fL))
    (FA : Fun K "is_table" "is_table" sTable fA fdA) (bA : Binds K fdA ["one", "other", "thing"] []) (gA : mg "is_table" = some (.ref fA)) (mi : mg "isinstance" = none) (mint : mg "int" = none) (mbool : mg "bool" = none) (mt : mg "tuple" = none) (mlen : mg "len" = none) (mall : mg "all" = none) (mz : mg "zip" = none) : FnOk P w K mg base CX0 (k + 1 + 1 + 1 + 1 + 1 + 1) f fd ["one", "other", "told"] spReadOk := by
  have GA : FnOk P w K mg base CX0 (k + 1 + 1 + 1 + 1 + 1) fA fdA ["one", "other", "thing"] spTable := ok_table FA FW bW gW FB bB gB FP bP gP FT bT gT FL bL gL mi mint mbool mt mlen mall mz
  refine F.ok scRead (fun vs H Q E h => ?_) (fun cdv A outer s H vs Q E hr h => ?_)
  · obtain ⟨t1, t2, a, ws, us, xs, wy, rfl, _⟩ := h
    rfl
  · obtain ⟨t1, t2, a, ws, us, xs, wy, rfl, e1, e2, ea, l1, hu, hP, ok, q⟩ := h
    refine ⟨_, (pss_cons (ps_set (i := 3) scRead.nd rfl (Or.inl rfl) (pe_callTy call_tuple_of (by rfl) mt (by decide +kernel) (pa_cons (pv 2) pa_nil)))
      (pss_cons (ps_if (pt_not (pt_val (pe_call GA hr (by rfl) gA FA.kp bA .nil pass0 (pa_cons (pv 0) (pa_cons (pv 1) (pa_cons (pv 3) pa_nil))))))
      (pss_one (ps_never)) pss_nil)
      (pss_one (ps_ret (pv 3))))), ?_⟩
    refine ⟨.ref a, rfl, a, _, rfl, .inl ⟨SqL.of ea, fun b hb => ?_⟩⟩
    have s1 := same_upd (o := .tup xs) hb
    have hW : Way (upd H b (.tup xs)) b wy := ⟨xs, upd_same, hP.keep (.of_same s1)⟩
    refine ⟨.ref t1, rfl, .ref t2, rfl, .ref b, rfl, (fun _ => False), t1, t2, ws, us, .ref b, dWay wy, rfl, s1 _ _ e1, s1 _ _ e2, l1, hu, dq_way hW, fun H2 s2 => ?_⟩
    refine ⟨_, rfl, ?_⟩
    rw [isWayD_ok ok]
    refine iteF ?_
    exact ⟨.ref b, rfl, q b _ (s1.trans s2) (hW.keep (.of_same s2))⟩
end
section
variable {P : Program} {w : World} {K : PySem.W.Frag} {mg : Str → Option Value} {base : Heap}
def spLaw (K : PySem.W.Frag) : Sp := fun vs H Q _ => ∃ (a : Addr) (ns : List Int), vs = [.ref a] ∧ SqL K H a (ns.map V.int) ∧ ∀ H', Q (.bl true) H'
theorem ok_law {f fS fN fH fQ fM fZ fL fU fA fO fY fE fP fR fB fa fb fc fe ff fg : Addr} {fd fdS fdN fdH fdQ fdM fdZ fdL fdU fdA fdO fdY fdE fdP fdR fdB fda fdb fdc fde fdf fdg : FuncData} {C : Addr} (TC : ErrTxt K mg "TooMany" C) (xC : PySem.W.excIn K C [.type "ValueError", .type "Exception", .type "BaseException", .type "object"] "ValueError.__new__" = true) {tf : Tok} (gF : mg "MOST_FILLINGS" = some (.int 2000 tf)) (F : Fun K "law" "law" sLaw f fd)
    (FS : Fun K "_law_source" "_law_source" sSource fS fdS) (bS : Binds K fdS ["script"] []) (gS : mg "_law_source" = some (.ref fS))
    (FN : Fun K "_law_next" "_law_next" sNext fN fdN) (bN : Binds K fdN ["source", "many"] []) (gN : mg "_law_next" = some (.ref fN))
    (FH : Fun K "how_many_of_tray" "how_many_of_tray" sTray fH fdH) (bH : Binds K fdH ["wells", "number"] []) (gH : mg "how_many_of_tray" = some (.ref fH))
    (FQ : Fun K "how_many" "how_many" sMany fQ fdQ) (bQ : Binds K fdQ ["crate", "number"] []) (gQ : mg "how_many" = some (.ref fQ))
    (FM : Fun K "ways_many" "ways_many" sManyW fM fdM) (bM : Binds K fdM ["one", "other"] []) (gM : mg "ways_many" = some (.ref fM))
    (FZ : Fun K "things_at" "things_at" sThings fZ fdZ) (bZ : Binds K fdZ ["wells", "number", "place"] []) (gZ : mg "things_at" = some (.ref fZ))
    (FL : Fun K "filling_at" "filling_at" sFillAt fL fdL) (bL : Binds K fdL ["crate", "number", "place"] []) (gL : mg "filling_at" = some (.ref fL))
    (FU : Fun K "place_of" "place_of" sPlaceOf fU fdU) (bU : Binds K fdU ["crate", "number", "filling"] []) (gU : mg "place_of" = some (.ref fU))
    (FA : Fun K "way_at" "way_at" sWayAt fA fdA) (bA : Binds K fdA ["one", "other", "number"] []) (gA : mg "way_at" = some (.ref fA))
    (FO : Fun K "number_of" "number_of" sNumOf fO fdO) (bO : Binds K fdO ["one", "other", "way"] []) (gO : mg "number_of" = some (.ref fO))
    (FY : Fun K "rising_things" "rising_things" sRise fY fdY) (bY : Binds K fdY ["wells", "number"] []) (gY : mg "rising_things" = some (.ref fY))
    (FE : Fun K "all_fillings" "all_fillings" sAll fE fdE) (bE : Binds K fdE ["crate", "number"] []) (gE : mg "all_fillings" = some (.ref fE))
    (FP : Fun K "plain" "plain" sPlain fP fdP) (bP : Binds K fdP ["crate", "tray"] []) (gP : mg "plain" = some (.ref fP))
    (FR : Fun K "turned" "turned" sTurned fR fdR) (bR : Binds K fdR ["way", "filling"] []) (gR : mg "turned" = some (.ref fR))
    (FB : Fun K "read_off" "read_off" sRead fB fdB) (bB : Binds K fdB ["one", "other", "told"] []) (gB : mg "read_off" = some (.ref fB))
    (Fa : Fun K "is_whole" "is_whole" sIsWhole fa fda) (ba : Binds K fda ["thing"] []) (ga : mg "is_whole" = some (.ref fa))
    (Fb : Fun K "is_below" "is_below" sBelow fb fdb) (bb : Binds K fdb ["thing", "bound"] []) (gb : mg "is_below" = some (.ref fb))
    (Fc : Fun K "is_pair" "is_pair" sIsPair fc fdc) (bc : Binds K fdc ["thing"] []) (gc : mg "is_pair" = some (.ref fc))
    (Fe : Fun K "fits" "fits" sFits fe fde) (be : Binds K fde ["crate", "thing"] []) (ge : mg "fits" = some (.ref fe))
    (Ff : Fun K "leads" "leads" sLeads ff fdf) (bf : Binds K fdf ["wells", "other", "thing"] []) (gf : mg "leads" = some (.ref ff))
    (Fg : Fun K "is_table" "is_table" sTable fg fdg) (bg : Binds K fdg ["one", "other", "thing"] []) (gg : mg "is_table" = some (.ref fg))
    (mabs : mg "abs" = none) (ml : mg "list" = none) (mt : mg "tuple" = none) (mr : mg "range" = none) (mx : mg "max" = none) (ms : mg "sum" = none) (mi : mg "isinstance" = none) (mint : mg "int" = none) (mbool : mg "bool" = none) (mlen : mg "len" = none) (mz : mg "zip" = none) (mdm : mg "divmod" = none) (men : mg "enumerate" = none) (mall : mg "all" = none) : FnOk P w K mg base CX0 7 f fd ["script"] (spLaw K) := by
  have GS : FnOk P w K mg base CX0 6 fS fdS ["script"] (spSource K) := ok_source FS ml
  have GN : FnOk P w K mg base CX0 6 fN fdN ["source", "many"] spNext := ok_next FN mabs
  have GQ : FnOk P w K mg base CX0 6 fQ fdQ ["crate", "number"] (spMany K) := ok_many FQ FH bH gH mx mr ms
  have GM : FnOk P w K mg base CX0 6 fM fdM ["one", "other"] spManyW := ok_manyW FM FQ bQ gQ FH bH gH mx mr ms
  have GA : FnOk P w K mg base CX0 6 fA fdA ["one", "other", "number"] spWayAt := ok_wayAt FA FQ bQ gQ FH bH gH FZ bZ gZ FM bM gM FL bL gL mx mr ms mt mdm
  have GO : FnOk P w K mg base CX0 6 fO fdO ["one", "other", "way"] spNumOf := ok_numOf FO FQ bQ gQ FH bH gH FU bU gU mx mr ms mz
  have GE : FnOk P w K mg base (L2.CX P w) 6 fE fdE ["crate", "number"] (spAll C) := ok_all (k := 3) FE FH bH gH FQ bQ gQ FY bY gY gF TC ⟨true, xC, rfl⟩ mx mr ms men
  have GP : FnOk P w K mg base CX0 6 fP fdP ["crate", "tray"] spPlain := ok_plain FP mt mr
  have GR : FnOk P w K mg base CX0 6 fR fdR ["way", "filling"] spTurned := ok_turned FR mt
  have GB : FnOk P w K mg base CX0 6 fB fdB ["one", "other", "told"] spReadOk := ok_read FB Fa ba ga Fb bb gb Fc bc gc Fe be ge Ff bf gf Fg bg gg mi mint mbool mt mlen mall mz
  refine F.ok scLaw (fun vs H Q E h => ?_) (fun cdv A outer s H vs Q E hr h => ?_)
  · obtain ⟨a, ns, rfl, _⟩ := h
    rfl
  · obtain ⟨a, ns, rfl, hS, q⟩ := h
    refine ⟨_, (pss_cons (ps_set (i := 1) scLaw.nd rfl (Or.inr rfl) (pe_call GS hr (by rfl) gS FS.kp bS .nil pass0 (pa_cons (pv 0) pa_nil)))
      (pss_cons (ps_set (i := 2) scLaw.nd rfl (Or.inl rfl) (pe_callTy call_tuple_of (by rfl) mt (by decide +kernel) (pa_cons (pe_lc (own := [("k", 8)]) (g := gName 8) (tt := tYes) rfl scLaw.nd (pi_range1 rfl mr (pa_cons (pe_call GN hr (by rfl) gN FN.kp bN .nil pass0 (pa_cons (pv 1) (pa_cons pe_int pa_nil))) pa_nil)) (blkOk_by (N := ["script", "source", "crate", "wells", "listed", "many", "number", "filling", "k"]) (sc := defScope sLaw) (by decide +kernel)) (fun _ _ _ _ _ => (pg_name (i := 8) scLaw.nd rfl (Or.inl rfl))) (fun _ _ _ _ _ => pts_nil) (fun _ _ _ _ _ => (pe_call GN hr (by rfl) gN FN.kp bN .nil pass0 (pa_cons (pv 1) (pa_cons pe_int pa_nil))))) pa_nil)))
      (pss_cons (ps_set (i := 3) scLaw.nd rfl (Or.inl rfl) (pe_call GN hr (by rfl) gN FN.kp bN .nil pass0 (pa_cons (pv 1) (pa_cons pe_int pa_nil))))
      (pss_cons (ps_set (i := 4) scLaw.nd rfl (Or.inl rfl) (pe_call GE hr (by rfl) gE FE.kp bE .nil passL (pa_cons (pv 2) (pa_cons (pv 3) pa_nil))))
      (pss_cons (ps_set (i := 5) scLaw.nd rfl (Or.inl rfl) (pe_call GM hr (by rfl) gM FM.kp bM .nil pass0 (pa_cons (pe_tup (pa_cons (pv 3) pa_nil)) (pa_cons (pv 2) pa_nil))))
      (pss_cons (ps_if (PW.pt (pw_or (pt_not (pt_val (pe_callB call_isi (by rfl) mi (by decide +kernel) (pa_cons (pv 5) (pa_cons (pe_bltn (v := .ty "int") (by rfl) mint (by decide +kernel) rfl) pa_nil))))) (pw_or (pt_val (pe_callB call_isi (by rfl) mi (by decide +kernel) (pa_cons (pv 5) (pa_cons (pe_bltn (v := .ty "bool") (by rfl) mbool (by decide +kernel) rfl) pa_nil)))) (pw_or (pt_cmpR op_ne (pv 5) (pe_callB call_len_seq (by rfl) mlen PySem.boot_len (pa_cons (pv 4) pa_nil)) (nomark _)) (pw_or1 (pt_cmpR op_ne (pv 5) (pe_call GQ hr (by rfl) gQ FQ.kp bQ .nil pass0 (pa_cons (pv 2) (pa_cons (pv 3) pa_nil))) (nomark _)))))))
      (pss_one (ps_ret pe_bl)) pss_nil)
      (pss_cons (ps_for PassesOwn.never rfl (pi_range1 rfl mr (pa_cons (pv 5) pa_nil)) (pg_name (i := 6) scLaw.nd rfl (Or.inl rfl))
      (pss_cons (ps_set (i := 7) scLaw.nd rfl (Or.inl rfl) (pe_ix ix_list (pv 4) (pv 6) (fun _ _ => rfl)))
      (pss_cons (ps_if (PW.pt (pw_or (pt_cmpR (op_neD hr.units) (pe_call GA hr (by rfl) gA FA.kp bA .nil pass0 (pa_cons (pe_tup (pa_cons (pv 3) pa_nil)) (pa_cons (pv 2) (pa_cons (pv 6) pa_nil)))) (pe_tup (pa_cons (pv 7) pa_nil)) (nomark _)) (pw_or1 (pt_cmpR op_ne (pe_call GO hr (by rfl) gO FO.kp bO .nil pass0 (pa_cons (pe_tup (pa_cons (pv 3) pa_nil)) (pa_cons (pv 2) (pa_cons (pe_tup (pa_cons (pv 7) pa_nil)) pa_nil)))) (pv 6) (nomark _)))))
      (pss_one (ps_ret pe_bl)) pss_nil)
      (pss_cons (ps_if (pt_cmpR (op_neD hr.units) (pe_call GB hr (by rfl) gB FB.kp bB .nil pass0 (pa_cons (pe_tup (pa_cons (pv 3) pa_nil)) (pa_cons (pv 2) (pa_cons (pe_lst (pa_cons (pv 7) pa_nil)) pa_nil)))) (pe_tup (pa_cons (pv 7) pa_nil)) (nomark _))
      (pss_one (ps_ret pe_bl)) pss_nil)
      (pss_one (ps_if (pt_cmpR (op_neD hr.units) (pe_call GR hr (by rfl) gR FR.kp bR .nil pass0 (pa_cons (pe_tup (pa_cons (pv 7) pa_nil)) (pa_cons (pe_call GP hr (by rfl) gP FP.kp bP .nil pass0 (pa_cons (pe_tup (pa_cons (pv 3) pa_nil)) (pa_cons pe_int pa_nil))) pa_nil))) (pv 7) (nomark _))
      (pss_one (ps_ret pe_bl)) pss_nil))))))
      (pss_one (ps_ret pe_bl))))))))), ?_⟩
    refine ⟨.ref a, rfl, a, ns, rfl, hS, fun p l H1 _ _ _ S1 => ?_⟩
    refine ⟨.ref p, rfl, p, l, 4, rfl, S1, by decide, by decide, fun z1 H2 a2 b2 S2 k2 => ?_⟩
    refine ⟨z1, rfl, by omega, by omega, fun D1 hD1 => lc_range (lo := 0) (n := z1.toNat) (fun i H3 => ∃ us : List Int, us.length = i ∧ (∀ x ∈ us, 0 ≤ x ∧ x ≤ 3) ∧ H3 D1 = some (.lst (us.map V.int)) ∧ Sc p l H3 ∧ Kp p l H2 H3) ⟨[], rfl, (fun x hx => by cases hx), upd_same, S2.upd hD1, (Kp.refl H2).upd hD1⟩ (fun i H3 hi h3 => ?_) (fun H3 h3 => ?_)⟩
    · obtain ⟨us, hl, ha, e3, S3, k3⟩ := h3
      refine ⟨rfl, .ref p, rfl, p, l, 4, rfl, S3, by decide, by decide, fun r7 H7 a7 b7 S7 k7 => ?_⟩
      have nD := S2.ne hD1
      have e7 : H7 D1 = some (.lst (us.map V.int)) := k7 D1 _ nD.1 nD.2 e3
      refine ⟨_, e7, ?_, us ++ [r7], ?_, ?_, ?_, S7.lst nD, (k3.trans k7).lst hD1⟩
      · rw [List.length_map]
        exact small1000 (by omega)
      · rw [List.length_append, hl]
        rfl
      · intro x hx
        rcases List.mem_append.mp hx with hx | hx
        · exact ha x hx
        · rw [List.mem_singleton.mp hx]
          exact ⟨a7, by omega⟩
      · rw [upd_same, List.map_append]
        rfl
    obtain ⟨us, hl1, hu3, e3, S3, k3⟩ := h3
    refine ⟨D1, _, rfl, .inl ⟨SqL.of e3, fun t1 ht1 => ?_⟩⟩
    have S4 := S3.upd (o := .tup (us.map V.int)) ht1
    have n1 := S3.ne ht1
    have e4 : (upd H3 t1 (.tup (us.map V.int))) t1 = some (.tup (us.map V.int)) := upd_same
    generalize upd H3 t1 (.tup (us.map V.int)) = H4 at S4 e4 ⊢
    have hu : ∀ x ∈ us, 0 ≤ x ∧ x ≤ 12 := fun x hx => by have := hu3 x hx; omega
    refine ⟨.ref p, rfl, p, l, 5, rfl, S4, by decide, by decide, fun nz H5 a5 b5 S5 k5 => ?_⟩
    obtain ⟨n, rfl⟩ : ∃ n : Nat, nz = (n : Int) := ⟨nz.toNat, by omega⟩
    have e5 := k5.get n1 e4
    have c4 := cnt4 (n := (n : Int)) (us := us) (by omega) (by omega) hu3 (by omega)
    refine ⟨.ref t1, rfl, .int (n : Int), rfl, t1, us, n, rfl, e5, by omega, hu, by omega, fun z => absurd z (by omega), fun _ R xs H6 s6 _ eR pR => ?_⟩
    have e6 := s6 _ _ e5
    have hfl : ((fills n us us.length).length : Int) = cnt (n : Int) us := by
      have := fills_len (n := n) (ws := us) (i := us.length) (Nat.le_refl _)
      rw [List.take_length] at this
      exact this
    have c0 := cnt_nonneg (n := (n : Int)) (by omega) us
    have hn12 : ∀ x ∈ [(n : Int)], 0 ≤ x ∧ x ≤ 12 := fun x hx => by
      rw [List.mem_singleton.mp hx]
      omega
    refine ⟨.int (n : Int), rfl, (show 1 ≤ sizeLine by decide), fun T hT => ?_⟩
    have s7 := same_upd (o := .tup [.int (n : Int)]) hT
    have eT : (upd H6 T (.tup [.int (n : Int)])) T = some (.tup ([(n : Int)].map V.int)) := upd_same
    generalize upd H6 T (.tup [.int (n : Int)]) = H7 at s7 eT ⊢
    refine ⟨.ref t1, rfl, T, t1, [(n : Int)], us, rfl, eT, s7 _ _ e6, hn12, hu, (show 1 ≤ 120 by decide), by omega, fun H8 s8 => ?_⟩
    rw [one_many]
    refine ⟨.int _, rfl, _, _, _, _, true, rfl, .ty "int", .base (.int _), kit_ty (by decide +kernel), _, rfl, iteF ?_⟩
    refine ⟨.int _, rfl, _, _, _, _, false, rfl, .ty "bool", .base (.int _), kit_ty (by decide +kernel), _, rfl, iteF ?_⟩
    have s68 := s7.trans s8
    refine ⟨.int (cnt (n : Int) us), rfl, .ref R, rfl, R, xs, rfl, .inl (SqL.of (s68 _ _ eR)), rfl, _, rfl, ?_⟩
    rw [show V.int (xs.length : Int) = V.int (cnt (n : Int) us) by rw [pR.1, hfl]]
    refine iteNS rfl ?_
    refine ⟨.int (cnt (n : Int) us), rfl, .ref t1, rfl, .int (n : Int), rfl, t1, us, (n : Int), rfl, SqT.of (s68 _ _ e6), by omega, hu, by omega, by omega, fun H9 s9 => ?_⟩
    refine ⟨rfl, _, rfl, iteNS rfl ?_⟩
    have s69 := s68.trans s9
    refine ⟨.int (cnt (n : Int) us), rfl, cnt (n : Int) us, rfl, by omega, by omega, for_range (lo := 0) (n := (cnt (n : Int) us).toNat) (fun i σ H' => ∃ y6 y7, σ = [some (.ref a), some (.ref p), some (.ref t1), some (.int (n : Int)), some (.ref R), some (.int (cnt (n : Int) us)), y6, y7, none] ∧ Same H6 H') ⟨_, _, rfl, s69⟩ (fun j σ HA hj h => ?_) (fun σ HA h => q _)⟩
    obtain ⟨y6, y7, rfl, sA⟩ := h
    have hjl : j < (fills n us us.length).length := by omega
    have gp : (fills n us us.length)[j]? = some (fills n us us.length)[j] := List.getElem?_eq_getElem hjl
    generalize (fills n us us.length)[j] = pr at gp
    obtain ⟨fp, fe⟩ := fills_num hu gp
    have hxl : j < xs.length := by rw [pR.1]; exact hjl
    obtain ⟨x, gx⟩ : ∃ x, xs[j]? = some x := ⟨xs[j]'hxl, List.getElem?_eq_getElem hxl⟩
    obtain ⟨pa, pb, rfl, ea, eb⟩ := pR.2 _ _ _ gx gp
    have okp := one_way fp
    have nump : wnum us [(n : Int)] [pr] = (j : Int) := by rw [one_num]; exact fe
    have hn0 : ∀ x ∈ [(n : Int)], 0 ≤ x := fun x hx => (hn12 x hx).1
    have wp : ∀ {H' : Hp} {b : Addr}, Same H6 H' → H' b = some (.tup [.ref pa]) → Way H' b [pr] := fun sH e => ⟨_, e, one_pairs (sH _ _ ea) (sH _ _ eb)⟩
    refine ⟨.ref R, rfl, .int (0 + (j : Int)), rfl, R, xs, 0 + (j : Int), .ref pa, rfl, rfl, SqL.of (sA _ _ eR), at_of (j := j) (by omega) gx, ?_⟩
    -- way_at
    refine ⟨.int (n : Int), rfl, (show 1 ≤ sizeLine by decide), fun T1 hT1 => ?_⟩
    have sB := same_upd (o := .tup [.int (n : Int)]) hT1
    have eT1 : (upd HA T1 (.tup [.int (n : Int)])) T1 = some (.tup ([(n : Int)].map V.int)) := upd_same
    generalize upd HA T1 (.tup [.int (n : Int)]) = HB at sB eT1 ⊢
    have s6B := sA.trans sB
    refine ⟨.ref t1, rfl, .int (0 + (j : Int)), rfl, T1, t1, [(n : Int)], us, (j : Int), by rw [Int.zero_add]; rfl, eT1, s6B _ _ e6, hn12, hu, (show 1 ≤ 120 by decide), by omega, by omega, by rw [one_many]; omega, fun b wy HC sC hW ok hn => ?_⟩
    obtain rfl : wy = [pr] := wnum_inj hn0 ok okp (by rw [hn, nump])
    refine ⟨.ref pa, rfl, (show 1 ≤ sizeLine by decide), fun T2 hT2 => ?_⟩
    have sD := same_upd (o := .tup [.ref pa]) hT2
    have eT2 : (upd HC T2 (.tup [.ref pa])) T2 = some (.tup [.ref pa]) := upd_same
    generalize upd HC T2 (.tup [.ref pa]) = HD at sD eT2 ⊢
    have s6D := (s6B.trans sC).trans sD
    refine ⟨dWay [pr], dWay [pr], way_dp (hW.keep (.of_same sD)), way_dp (wp s6D eT2), shaped_way _, shaped_way _, _, rfl, ?_⟩
    rw [eqv_way, decide_eq_true rfl]
    refine iteF ?_
    -- number_of
    refine ⟨.int (n : Int), rfl, (show 1 ≤ sizeLine by decide), fun T3 hT3 => ?_⟩
    have sE := same_upd (o := .tup [.int (n : Int)]) hT3
    have eT3 : (upd HD T3 (.tup [.int (n : Int)])) T3 = some (.tup ([(n : Int)].map V.int)) := upd_same
    generalize upd HD T3 (.tup [.int (n : Int)]) = HE at sE eT3 ⊢
    refine ⟨.ref t1, rfl, .ref pa, rfl, (show 1 ≤ sizeLine by decide), fun T4 hT4 => ?_⟩
    have sF := same_upd (o := .tup [.ref pa]) hT4
    have eT4 : (upd HE T4 (.tup [.ref pa])) T4 = some (.tup [.ref pa]) := upd_same
    generalize upd HE T4 (.tup [.ref pa]) = HF at sF eT4 ⊢
    have s6F := (s6D.trans sE).trans sF
    refine ⟨T3, t1, T4, [(n : Int)], us, [pr], rfl, sF _ _ eT3, s6F _ _ e6, hn12, hu, (show 1 ≤ 120 by decide), by omega, wp s6F eT4, okp, fun HG sG => ?_⟩
    rw [nump]
    refine ⟨.int (0 + (j : Int)), rfl, rfl, _, rfl, ?_⟩
    rw [show V.int (j : Int) = V.int (0 + (j : Int)) by rw [Int.zero_add]]
    refine iteNS rfl ?_
    have s6G := s6F.trans sG
    -- read_off
    refine ⟨.int (n : Int), rfl, (show 1 ≤ sizeLine by decide), fun T5 hT5 => ?_⟩
    have sH := same_upd (o := .tup [.int (n : Int)]) hT5
    have eT5 : (upd HG T5 (.tup [.int (n : Int)])) T5 = some (.tup ([(n : Int)].map V.int)) := upd_same
    generalize upd HG T5 (.tup [.int (n : Int)]) = HH at sH eT5 ⊢
    refine ⟨.ref t1, rfl, .ref pa, rfl, (show 1 ≤ sizeLine by decide), fun T6 hT6 => ?_⟩
    have sI := same_upd (o := .lst [.ref pa]) hT6
    have eT6 : (upd HH T6 (.lst [.ref pa])) T6 = some (.lst [.ref pa]) := upd_same
    generalize upd HH T6 (.lst [.ref pa]) = HI at sI eT6 ⊢
    have s6I := (s6G.trans sH).trans sI
    refine ⟨T5, t1, T6, [(n : Int)], us, [.ref pa], [pr], rfl, sI _ _ eT5, s6I _ _ e6, eT6, (show 1 ≤ 900 by decide), (fun u hu' => by have := hu u hu'; omega), one_pairs (s6I _ _ ea) (s6I _ _ eb), okp, fun b2 HJ sJ hW2 => ?_⟩
    refine ⟨.ref pa, rfl, (show 1 ≤ sizeLine by decide), fun T7 hT7 => ?_⟩
    have sK := same_upd (o := .tup [.ref pa]) hT7
    have eT7 : (upd HJ T7 (.tup [.ref pa])) T7 = some (.tup [.ref pa]) := upd_same
    generalize upd HJ T7 (.tup [.ref pa]) = HK at sK eT7 ⊢
    have s6K := (s6I.trans sJ).trans sK
    refine ⟨dWay [pr], dWay [pr], way_dp (hW2.keep (.of_same sK)), way_dp (wp s6K eT7), shaped_way _, shaped_way _, _, rfl, ?_⟩
    rw [eqv_way, decide_eq_true rfl]
    refine iteF ?_
    -- turned
    refine ⟨.ref pa, rfl, (show 1 ≤ sizeLine by decide), fun T8 hT8 => ?_⟩
    have sL := same_upd (o := .tup [.ref pa]) hT8
    have eT8 : (upd HK T8 (.tup [.ref pa])) T8 = some (.tup [.ref pa]) := upd_same
    generalize upd HK T8 (.tup [.ref pa]) = HL at sL eT8 ⊢
    refine ⟨.int (n : Int), rfl, (show 1 ≤ sizeLine by decide), fun T9 hT9 => ?_⟩
    have sM := same_upd (o := .tup [.int (n : Int)]) hT9
    have eT9 : (upd HL T9 (.tup [.int (n : Int)])) T9 = some (.tup ([(n : Int)].map V.int)) := upd_same
    generalize upd HL T9 (.tup [.int (n : Int)]) = HM at sM eT9 ⊢
    have s6M := (s6K.trans sL).trans sM
    refine ⟨T9, [(n : Int)], 0, (n : Int), rfl, eT9, rfl, by omega, by omega, fun fa fb HN sN _ efa efb => ?_⟩
    have s6N := s6M.trans sN
    have hpl : pr.2.length ≤ 900 := by have := hu _ (List.mem_of_getElem? fp.2.2.1); omega
    refine ⟨T8, fa, fb, 0, (iota (n : Int)).map V.int, [pr], pr, rfl, wp s6N (sN _ _ (sM _ _ eT8)), efa, efb, by decide, rfl, ?_, hpl, fun ga gb HO sO _ ega egb => ?_⟩
    · rw [List.length_map, iota_len]
      intro y hy
      have := fp.2.2.2 y hy
      omega
    rw [pickV_plain fp.2.2.2 (by omega)] at egb
    have s6O := s6N.trans sO
    refine ⟨.ref pa, rfl, dPair pr, dPair pr, (dq_pair (N := fun _ => False) ega egb).dp, (dq_pair (N := fun _ => False) (s6O _ _ ea) (s6O _ _ eb)).dp, shaped_pair _, shaped_pair _, _, rfl, ?_⟩
    rw [eqv_pair, decide_eq_true rfl]
    refine iteF ?_
    exact ⟨_, _, rfl, s6O⟩
end
theorem all_mk {l : PySem.W.OpenLaw} {w : World} {K : PySem.W.Frag} {h : Heap} {mg : Str → Option Value} {fa f1 f2 f3 f4 f5 f6 f7 f8 f9 f10 f11 f12 f13 f14 f15 f16 f17 f18 f19 f20 f21 f22 C : Addr} (X : K.In h) (G : h.Ns mainGlobals mg) (hfa : mg "law" = some (.ref fa))
    {od1 an1 od2 an2 od3 an3 od4 an4 od5 an5 od6 an6 od7 an7 od8 an8 od9 an9 od10 an10 od11 an11 od12 an12 od13 an13 od14 an14 od15 an15 od16 an16 od17 an17 od18 an18 od19 an19 od20 an20 od21 an21 od22 an22 : Option Addr} {sl1 sl2 sl3 sl4 sl5 sl6 sl7 sl8 sl9 sl10 sl11 sl12 sl13 sl14 sl15 sl16 sl17 sl18 sl19 sl20 sl21 sl22 : Array (Option Value)} {oc1 kV1 dc1 pm1 cd1 ct1 oc2 kV2 dc2 pm2 cd2 ct2 oc3 kV3 dc3 pm3 cd3 ct3 oc4 kV4 dc4 pm4 cd4 ct4 oc5 kV5 dc5 pm5 cd5 ct5 oc6 kV6 dc6 pm6 cd6 ct6 oc7 kV7 dc7 pm7 cd7 ct7 oc8 kV8 dc8 pm8 cd8 ct8 oc9 kV9 dc9 pm9 cd9 ct9 oc10 kV10 dc10 pm10 cd10 ct10 oc11 kV11 dc11 pm11 cd11 ct11 oc12 kV12 dc12 pm12 cd12 ct12 oc13 kV13 dc13 pm13 cd13 ct13 oc14 kV14 dc14 pm14 cd14 ct14 oc15 kV15 dc15 pm15 cd15 ct15 oc16 kV16 dc16 pm16 cd16 ct16 oc17 kV17 dc17 pm17 cd17 ct17 oc18 kV18 dc18 pm18 cd18 ct18 oc19 kV19 dc19 pm19 cd19 ct19 oc20 kV20 dc20 pm20 cd20 ct20 oc21 kV21 dc21 pm21 cd21 ct21 oc22 kV22 dc22 pm22 cd22 ct22 : Value} {tf : Tok}
    (a1 : PySem.W.nsIn K mainGlobals "_law_source" = some (some (.ref f1))) (l1 : K.lookup f1 = some ⟨oc1, od1, .func (PySem.W.fnOf "_law_source" "_law_source" (defArgs sSource) (defBody sSource) (defScope sSource) .none kV1 dc1 pm1 an1 cd1 ct1), sl1⟩) (c1 : PySem.W.codeIn K cd1 "_law_source" = true) (k1 : PySem.W.keepIn K (.ref f1) = true)
    (a2 : PySem.W.nsIn K mainGlobals "_law_next" = some (some (.ref f2))) (l2 : K.lookup f2 = some ⟨oc2, od2, .func (PySem.W.fnOf "_law_next" "_law_next" (defArgs sNext) (defBody sNext) (defScope sNext) .none kV2 dc2 pm2 an2 cd2 ct2), sl2⟩) (c2 : PySem.W.codeIn K cd2 "_law_next" = true) (k2 : PySem.W.keepIn K (.ref f2) = true)
    (a3 : PySem.W.nsIn K mainGlobals "how_many_of_tray" = some (some (.ref f3))) (l3 : K.lookup f3 = some ⟨oc3, od3, .func (PySem.W.fnOf "how_many_of_tray" "how_many_of_tray" (defArgs sTray) (defBody sTray) (defScope sTray) .none kV3 dc3 pm3 an3 cd3 ct3), sl3⟩) (c3 : PySem.W.codeIn K cd3 "how_many_of_tray" = true) (k3 : PySem.W.keepIn K (.ref f3) = true)
    (a4 : PySem.W.nsIn K mainGlobals "how_many" = some (some (.ref f4))) (l4 : K.lookup f4 = some ⟨oc4, od4, .func (PySem.W.fnOf "how_many" "how_many" (defArgs sMany) (defBody sMany) (defScope sMany) .none kV4 dc4 pm4 an4 cd4 ct4), sl4⟩) (c4 : PySem.W.codeIn K cd4 "how_many" = true) (k4 : PySem.W.keepIn K (.ref f4) = true)
    (a5 : PySem.W.nsIn K mainGlobals "ways_many" = some (some (.ref f5))) (l5 : K.lookup f5 = some ⟨oc5, od5, .func (PySem.W.fnOf "ways_many" "ways_many" (defArgs sManyW) (defBody sManyW) (defScope sManyW) .none kV5 dc5 pm5 an5 cd5 ct5), sl5⟩) (c5 : PySem.W.codeIn K cd5 "ways_many" = true) (k5 : PySem.W.keepIn K (.ref f5) = true)
    (a6 : PySem.W.nsIn K mainGlobals "things_at" = some (some (.ref f6))) (l6 : K.lookup f6 = some ⟨oc6, od6, .func (PySem.W.fnOf "things_at" "things_at" (defArgs sThings) (defBody sThings) (defScope sThings) .none kV6 dc6 pm6 an6 cd6 ct6), sl6⟩) (c6 : PySem.W.codeIn K cd6 "things_at" = true) (k6 : PySem.W.keepIn K (.ref f6) = true)
    (a7 : PySem.W.nsIn K mainGlobals "filling_at" = some (some (.ref f7))) (l7 : K.lookup f7 = some ⟨oc7, od7, .func (PySem.W.fnOf "filling_at" "filling_at" (defArgs sFillAt) (defBody sFillAt) (defScope sFillAt) .none kV7 dc7 pm7 an7 cd7 ct7), sl7⟩) (c7 : PySem.W.codeIn K cd7 "filling_at" = true) (k7 : PySem.W.keepIn K (.ref f7) = true)
    (a8 : PySem.W.nsIn K mainGlobals "place_of" = some (some (.ref f8))) (l8 : K.lookup f8 = some ⟨oc8, od8, .func (PySem.W.fnOf "place_of" "place_of" (defArgs sPlaceOf) (defBody sPlaceOf) (defScope sPlaceOf) .none kV8 dc8 pm8 an8 cd8 ct8), sl8⟩) (c8 : PySem.W.codeIn K cd8 "place_of" = true) (k8 : PySem.W.keepIn K (.ref f8) = true)
    (a9 : PySem.W.nsIn K mainGlobals "way_at" = some (some (.ref f9))) (l9 : K.lookup f9 = some ⟨oc9, od9, .func (PySem.W.fnOf "way_at" "way_at" (defArgs sWayAt) (defBody sWayAt) (defScope sWayAt) .none kV9 dc9 pm9 an9 cd9 ct9), sl9⟩) (c9 : PySem.W.codeIn K cd9 "way_at" = true) (k9 : PySem.W.keepIn K (.ref f9) = true)
    (a10 : PySem.W.nsIn K mainGlobals "number_of" = some (some (.ref f10))) (l10 : K.lookup f10 = some ⟨oc10, od10, .func (PySem.W.fnOf "number_of" "number_of" (defArgs sNumOf) (defBody sNumOf) (defScope sNumOf) .none kV10 dc10 pm10 an10 cd10 ct10), sl10⟩) (c10 : PySem.W.codeIn K cd10 "number_of" = true) (k10 : PySem.W.keepIn K (.ref f10) = true)
    (a11 : PySem.W.nsIn K mainGlobals "rising_things" = some (some (.ref f11))) (l11 : K.lookup f11 = some ⟨oc11, od11, .func (PySem.W.fnOf "rising_things" "rising_things" (defArgs sRise) (defBody sRise) (defScope sRise) .none kV11 dc11 pm11 an11 cd11 ct11), sl11⟩) (c11 : PySem.W.codeIn K cd11 "rising_things" = true) (k11 : PySem.W.keepIn K (.ref f11) = true)
    (a12 : PySem.W.nsIn K mainGlobals "all_fillings" = some (some (.ref f12))) (l12 : K.lookup f12 = some ⟨oc12, od12, .func (PySem.W.fnOf "all_fillings" "all_fillings" (defArgs sAll) (defBody sAll) (defScope sAll) .none kV12 dc12 pm12 an12 cd12 ct12), sl12⟩) (c12 : PySem.W.codeIn K cd12 "all_fillings" = true) (k12 : PySem.W.keepIn K (.ref f12) = true)
    (a13 : PySem.W.nsIn K mainGlobals "plain" = some (some (.ref f13))) (l13 : K.lookup f13 = some ⟨oc13, od13, .func (PySem.W.fnOf "plain" "plain" (defArgs sPlain) (defBody sPlain) (defScope sPlain) .none kV13 dc13 pm13 an13 cd13 ct13), sl13⟩) (c13 : PySem.W.codeIn K cd13 "plain" = true) (k13 : PySem.W.keepIn K (.ref f13) = true)
    (a14 : PySem.W.nsIn K mainGlobals "turned" = some (some (.ref f14))) (l14 : K.lookup f14 = some ⟨oc14, od14, .func (PySem.W.fnOf "turned" "turned" (defArgs sTurned) (defBody sTurned) (defScope sTurned) .none kV14 dc14 pm14 an14 cd14 ct14), sl14⟩) (c14 : PySem.W.codeIn K cd14 "turned" = true) (k14 : PySem.W.keepIn K (.ref f14) = true)
    (a15 : PySem.W.nsIn K mainGlobals "read_off" = some (some (.ref f15))) (l15 : K.lookup f15 = some ⟨oc15, od15, .func (PySem.W.fnOf "read_off" "read_off" (defArgs sRead) (defBody sRead) (defScope sRead) .none kV15 dc15 pm15 an15 cd15 ct15), sl15⟩) (c15 : PySem.W.codeIn K cd15 "read_off" = true) (k15 : PySem.W.keepIn K (.ref f15) = true)
    (a16 : PySem.W.nsIn K mainGlobals "is_whole" = some (some (.ref f16))) (l16 : K.lookup f16 = some ⟨oc16, od16, .func (PySem.W.fnOf "is_whole" "is_whole" (defArgs sIsWhole) (defBody sIsWhole) (defScope sIsWhole) .none kV16 dc16 pm16 an16 cd16 ct16), sl16⟩) (c16 : PySem.W.codeIn K cd16 "is_whole" = true) (k16 : PySem.W.keepIn K (.ref f16) = true)
    (a17 : PySem.W.nsIn K mainGlobals "is_below" = some (some (.ref f17))) (l17 : K.lookup f17 = some ⟨oc17, od17, .func (PySem.W.fnOf "is_below" "is_below" (defArgs sBelow) (defBody sBelow) (defScope sBelow) .none kV17 dc17 pm17 an17 cd17 ct17), sl17⟩) (c17 : PySem.W.codeIn K cd17 "is_below" = true) (k17 : PySem.W.keepIn K (.ref f17) = true)
    (a18 : PySem.W.nsIn K mainGlobals "is_pair" = some (some (.ref f18))) (l18 : K.lookup f18 = some ⟨oc18, od18, .func (PySem.W.fnOf "is_pair" "is_pair" (defArgs sIsPair) (defBody sIsPair) (defScope sIsPair) .none kV18 dc18 pm18 an18 cd18 ct18), sl18⟩) (c18 : PySem.W.codeIn K cd18 "is_pair" = true) (k18 : PySem.W.keepIn K (.ref f18) = true)
    (a19 : PySem.W.nsIn K mainGlobals "fits" = some (some (.ref f19))) (l19 : K.lookup f19 = some ⟨oc19, od19, .func (PySem.W.fnOf "fits" "fits" (defArgs sFits) (defBody sFits) (defScope sFits) .none kV19 dc19 pm19 an19 cd19 ct19), sl19⟩) (c19 : PySem.W.codeIn K cd19 "fits" = true) (k19 : PySem.W.keepIn K (.ref f19) = true)
    (a20 : PySem.W.nsIn K mainGlobals "leads" = some (some (.ref f20))) (l20 : K.lookup f20 = some ⟨oc20, od20, .func (PySem.W.fnOf "leads" "leads" (defArgs sLeads) (defBody sLeads) (defScope sLeads) .none kV20 dc20 pm20 an20 cd20 ct20), sl20⟩) (c20 : PySem.W.codeIn K cd20 "leads" = true) (k20 : PySem.W.keepIn K (.ref f20) = true)
    (a21 : PySem.W.nsIn K mainGlobals "is_table" = some (some (.ref f21))) (l21 : K.lookup f21 = some ⟨oc21, od21, .func (PySem.W.fnOf "is_table" "is_table" (defArgs sTable) (defBody sTable) (defScope sTable) .none kV21 dc21 pm21 an21 cd21 ct21), sl21⟩) (c21 : PySem.W.codeIn K cd21 "is_table" = true) (k21 : PySem.W.keepIn K (.ref f21) = true)
    (a22 : PySem.W.nsIn K mainGlobals "law" = some (some (.ref f22))) (l22 : K.lookup f22 = some ⟨oc22, od22, .func (PySem.W.fnOf "law" "law" (defArgs sLaw) (defBody sLaw) (defScope sLaw) .none kV22 dc22 pm22 an22 cd22 ct22), sl22⟩) (c22 : PySem.W.codeIn K cd22 "law" = true) (k22 : PySem.W.keepIn K (.ref f22) = true)
    (w1 : PySem.W.nsIn K mainGlobals "MOST_FILLINGS" = some (some (.int 2000 tf)))
    (xa : PySem.W.nsIn K mainGlobals "TooMany" = some (some (.ref C)))
    (xk : PySem.W.keepIn K (.ref C) = true)
    (xb : PySem.W.subIn K (.ref C) (.type "BaseException") = some true)
    (xt : PySem.W.typeIn K (.ref C) = some (.type "type"))
    (xx : PySem.W.excIn K C [.type "ValueError", .type "Exception", .type "BaseException", .type "object"] "ValueError.__new__" = true)
    (z1 : PySem.W.nsIn K mainGlobals "abs" = some none)
    (z2 : PySem.W.nsIn K mainGlobals "list" = some none)
    (z3 : PySem.W.nsIn K mainGlobals "tuple" = some none)
    (z4 : PySem.W.nsIn K mainGlobals "range" = some none)
    (z5 : PySem.W.nsIn K mainGlobals "max" = some none)
    (z6 : PySem.W.nsIn K mainGlobals "sum" = some none)
    (z7 : PySem.W.nsIn K mainGlobals "isinstance" = some none)
    (z8 : PySem.W.nsIn K mainGlobals "int" = some none)
    (z9 : PySem.W.nsIn K mainGlobals "bool" = some none)
    (z10 : PySem.W.nsIn K mainGlobals "len" = some none)
    (z11 : PySem.W.nsIn K mainGlobals "zip" = some none)
    (z12 : PySem.W.nsIn K mainGlobals "divmod" = some none)
    (z13 : PySem.W.nsIn K mainGlobals "enumerate" = some none)
    (z14 : PySem.W.nsIn K mainGlobals "all" = some none)
    : ∃ fd : FuncData, (∀ (s : Shared) (v : Value), BindsTo s fd ⟨[v], []⟩ [("script", v)]) ∧ ∀ base : Heap, K.In base → base.Ns mainGlobals mg → FnOk l.prog w K mg base CX0 7 fa fd ["script"] (spLaw K) := by
  have e := hfa.symm.trans (PySem.W.mg_of X G a22)
  cases e
  have F1 := fun_mk (st := sSource) l1 c1 k1
  have F2 := fun_mk (st := sNext) l2 c2 k2
  have F3 := fun_mk (st := sTray) l3 c3 k3
  have F4 := fun_mk (st := sMany) l4 c4 k4
  have F5 := fun_mk (st := sManyW) l5 c5 k5
  have F6 := fun_mk (st := sThings) l6 c6 k6
  have F7 := fun_mk (st := sFillAt) l7 c7 k7
  have F8 := fun_mk (st := sPlaceOf) l8 c8 k8
  have F9 := fun_mk (st := sWayAt) l9 c9 k9
  have F10 := fun_mk (st := sNumOf) l10 c10 k10
  have F11 := fun_mk (st := sRise) l11 c11 k11
  have F12 := fun_mk (st := sAll) l12 c12 k12
  have F13 := fun_mk (st := sPlain) l13 c13 k13
  have F14 := fun_mk (st := sTurned) l14 c14 k14
  have F15 := fun_mk (st := sRead) l15 c15 k15
  have F16 := fun_mk (st := sIsWhole) l16 c16 k16
  have F17 := fun_mk (st := sBelow) l17 c17 k17
  have F18 := fun_mk (st := sIsPair) l18 c18 k18
  have F19 := fun_mk (st := sFits) l19 c19 k19
  have F20 := fun_mk (st := sLeads) l20 c20 k20
  have F21 := fun_mk (st := sTable) l21 c21 k21
  have F22 := fun_mk (st := sLaw) l22 c22 k22
  have b1 := F1.binds (ps := ["script"]) fun _ _ _ _ _ _ us hl => match us, hl with | [_], _ => rfl
  have b2 := F2.binds (ps := ["source", "many"]) fun _ _ _ _ _ _ us hl => match us, hl with | [_, _], _ => rfl
  have b3 := F3.binds (ps := ["wells", "number"]) fun _ _ _ _ _ _ us hl => match us, hl with | [_, _], _ => rfl
  have b4 := F4.binds (ps := ["crate", "number"]) fun _ _ _ _ _ _ us hl => match us, hl with | [_, _], _ => rfl
  have b5 := F5.binds (ps := ["one", "other"]) fun _ _ _ _ _ _ us hl => match us, hl with | [_, _], _ => rfl
  have b6 := F6.binds (ps := ["wells", "number", "place"]) fun _ _ _ _ _ _ us hl => match us, hl with | [_, _, _], _ => rfl
  have b7 := F7.binds (ps := ["crate", "number", "place"]) fun _ _ _ _ _ _ us hl => match us, hl with | [_, _, _], _ => rfl
  have b8 := F8.binds (ps := ["crate", "number", "filling"]) fun _ _ _ _ _ _ us hl => match us, hl with | [_, _, _], _ => rfl
  have b9 := F9.binds (ps := ["one", "other", "number"]) fun _ _ _ _ _ _ us hl => match us, hl with | [_, _, _], _ => rfl
  have b10 := F10.binds (ps := ["one", "other", "way"]) fun _ _ _ _ _ _ us hl => match us, hl with | [_, _, _], _ => rfl
  have b11 := F11.binds (ps := ["wells", "number"]) fun _ _ _ _ _ _ us hl => match us, hl with | [_, _], _ => rfl
  have b12 := F12.binds (ps := ["crate", "number"]) fun _ _ _ _ _ _ us hl => match us, hl with | [_, _], _ => rfl
  have b13 := F13.binds (ps := ["crate", "tray"]) fun _ _ _ _ _ _ us hl => match us, hl with | [_, _], _ => rfl
  have b14 := F14.binds (ps := ["way", "filling"]) fun _ _ _ _ _ _ us hl => match us, hl with | [_, _], _ => rfl
  have b15 := F15.binds (ps := ["one", "other", "told"]) fun _ _ _ _ _ _ us hl => match us, hl with | [_, _, _], _ => rfl
  have b16 := F16.binds (ps := ["thing"]) fun _ _ _ _ _ _ us hl => match us, hl with | [_], _ => rfl
  have b17 := F17.binds (ps := ["thing", "bound"]) fun _ _ _ _ _ _ us hl => match us, hl with | [_, _], _ => rfl
  have b18 := F18.binds (ps := ["thing"]) fun _ _ _ _ _ _ us hl => match us, hl with | [_], _ => rfl
  have b19 := F19.binds (ps := ["crate", "thing"]) fun _ _ _ _ _ _ us hl => match us, hl with | [_, _], _ => rfl
  have b20 := F20.binds (ps := ["wells", "other", "thing"]) fun _ _ _ _ _ _ us hl => match us, hl with | [_, _, _], _ => rfl
  have b21 := F21.binds (ps := ["one", "other", "thing"]) fun _ _ _ _ _ _ us hl => match us, hl with | [_, _, _], _ => rfl
  exact ⟨PySem.W.fnOf "law" "law" (defArgs sLaw) (defBody sLaw) (defScope sLaw) .none kV22 dc22 pm22 an22 cd22 ct22, fun s v => .of_eq rfl, fun base _ _ => ok_law (F := F22) (FS := F1) (bS := b1) (gS := PySem.W.mg_of X G a1) (FN := F2) (bN := b2) (gN := PySem.W.mg_of X G a2) (FH := F3) (bH := b3) (gH := PySem.W.mg_of X G a3) (FQ := F4) (bQ := b4) (gQ := PySem.W.mg_of X G a4) (FM := F5) (bM := b5) (gM := PySem.W.mg_of X G a5) (FZ := F6) (bZ := b6) (gZ := PySem.W.mg_of X G a6) (FL := F7) (bL := b7) (gL := PySem.W.mg_of X G a7) (FU := F8) (bU := b8) (gU := PySem.W.mg_of X G a8) (FA := F9) (bA := b9) (gA := PySem.W.mg_of X G a9) (FO := F10) (bO := b10) (gO := PySem.W.mg_of X G a10) (FY := F11) (bY := b11) (gY := PySem.W.mg_of X G a11) (FE := F12) (bE := b12) (gE := PySem.W.mg_of X G a12) (FP := F13) (bP := b13) (gP := PySem.W.mg_of X G a13) (FR := F14) (bR := b14) (gR := PySem.W.mg_of X G a14) (FB := F15) (bB := b15) (gB := PySem.W.mg_of X G a15) (Fa := F16) (ba := b16) (ga := PySem.W.mg_of X G a16) (Fb := F17) (bb := b17) (gb := PySem.W.mg_of X G a17) (Fc := F18) (bc := b18) (gc := PySem.W.mg_of X G a18) (Fe := F19) (be := b19) (ge := PySem.W.mg_of X G a19) (Ff := F20) (bf := b20) (gf := PySem.W.mg_of X G a20) (Fg := F21) (bg := b21) (gg := PySem.W.mg_of X G a21) (gF := PySem.W.mg_of X G w1) (mabs := PySem.W.mg_none_of X G z1) (ml := PySem.W.mg_none_of X G z2) (mt := PySem.W.mg_none_of X G z3) (mr := PySem.W.mg_none_of X G z4) (mx := PySem.W.mg_none_of X G z5) (ms := PySem.W.mg_none_of X G z6) (mi := PySem.W.mg_none_of X G z7) (mint := PySem.W.mg_none_of X G z8) (mbool := PySem.W.mg_none_of X G z9) (mlen := PySem.W.mg_none_of X G z10) (mz := PySem.W.mg_none_of X G z11) (mdm := PySem.W.mg_none_of X G z12) (men := PySem.W.mg_none_of X G z13) (mall := PySem.W.mg_none_of X G z14) (TC := ⟨PySem.W.mg_of X G xa, xk, xb, xt⟩) (xC := xx)⟩
end Tm
open PySem PySem.W PyProof.Rows
set_option maxHeartbeats 0 in
theorem PySem.Challenge.cw_traymap_k17_whole_ways_of_one_tray_holds : PySem.Challenge.rw_traymap_k17_whole_ways_of_one_tray.Holds := by
  w_on; o_law; k_head; (case hw => w_witness2)
  k_fill
  refine L2.walk_of (l := PySem.Challenge.rw_traymap_k17_whole_ways_of_one_tray) (n := 63) (k := 7) (x := "script") (CX := fun _ => L2.CX0) (sp := fun w => Tm.spLaw _) rfl (by decide) rfl ⟨rfl, by decide, by decide⟩ (fun w h Y => PySem.W.kIn_of Y) ?F (fun _ _ a ns hl _ hS => ⟨a, ns, rfl, hS, fun _ => rfl⟩) (fun _ _ _ _ _ h => h)
  case F =>
    intro w mg fa h KX G hmg
    refine' Tm.all_mk KX G hmg ?a1 ?l1 ?c1 ?k1 ?a2 ?l2 ?c2 ?k2 ?a3 ?l3 ?c3 ?k3 ?a4 ?l4 ?c4 ?k4 ?a5 ?l5 ?c5 ?k5 ?a6 ?l6 ?c6 ?k6 ?a7 ?l7 ?c7 ?k7 ?a8 ?l8 ?c8 ?k8 ?a9 ?l9 ?c9 ?k9 ?a10 ?l10 ?c10 ?k10 ?a11 ?l11 ?c11 ?k11 ?a12 ?l12 ?c12 ?k12 ?a13 ?l13 ?c13 ?k13 ?a14 ?l14 ?c14 ?k14 ?a15 ?l15 ?c15 ?k15 ?a16 ?l16 ?c16 ?k16 ?a17 ?l17 ?c17 ?k17 ?a18 ?l18 ?c18 ?k18 ?a19 ?l19 ?c19 ?k19 ?a20 ?l20 ?c20 ?k20 ?a21 ?l21 ?c21 ?k21 ?a22 ?l22 ?c22 ?k22 ?w1 ?xa ?xk ?xb ?xt ?xx ?z1 ?z2 ?z3 ?z4 ?z5 ?z6 ?z7 ?z8 ?z9 ?z10 ?z11 ?z12 ?z13 ?z14
    (case a1 => k_is); (case l1 => k_is); (case c1 => k_is); (case k1 => k_is); (case a2 => k_is); (case l2 => k_is); (case c2 => k_is); (case k2 => k_is); (case a3 => k_is); (case l3 => k_is); (case c3 => k_is); (case k3 => k_is); (case a4 => k_is); (case l4 => k_is); (case c4 => k_is); (case k4 => k_is); (case a5 => k_is); (case l5 => k_is); (case c5 => k_is); (case k5 => k_is); (case a6 => k_is); (case l6 => k_is); (case c6 => k_is); (case k6 => k_is); (case a7 => k_is); (case l7 => k_is); (case c7 => k_is); (case k7 => k_is); (case a8 => k_is); (case l8 => k_is); (case c8 => k_is); (case k8 => k_is); (case a9 => k_is); (case l9 => k_is); (case c9 => k_is); (case k9 => k_is); (case a10 => k_is); (case l10 => k_is); (case c10 => k_is); (case k10 => k_is); (case a11 => k_is); (case l11 => k_is); (case c11 => k_is); (case k11 => k_is); (case a12 => k_is); (case l12 => k_is); (case c12 => k_is); (case k12 => k_is); (case a13 => k_is); (case l13 => k_is); (case c13 => k_is); (case k13 => k_is); (case a14 => k_is); (case l14 => k_is); (case c14 => k_is); (case k14 => k_is); (case a15 => k_is); (case l15 => k_is); (case c15 => k_is); (case k15 => k_is); (case a16 => k_is); (case l16 => k_is); (case c16 => k_is); (case k16 => k_is); (case a17 => k_is); (case l17 => k_is); (case c17 => k_is); (case k17 => k_is); (case a18 => k_is); (case l18 => k_is); (case c18 => k_is); (case k18 => k_is); (case a19 => k_is); (case l19 => k_is); (case c19 => k_is); (case k19 => k_is); (case a20 => k_is); (case l20 => k_is); (case c20 => k_is); (case k20 => k_is); (case a21 => k_is); (case l21 => k_is); (case c21 => k_is); (case k21 => k_is); (case a22 => k_is); (case l22 => k_is); (case c22 => k_is); (case k22 => k_is); (case w1 => k_is); (case xa => first | k_is | rfl | kernel_rfl | decide +kernel); (case xk => first | k_is | rfl | kernel_rfl | decide +kernel); (case xb => first | k_is | rfl | kernel_rfl | decide +kernel); (case xt => first | k_is | rfl | kernel_rfl | decide +kernel); (case xx => first | k_exc | first | rfl | kernel_rfl | decide +kernel | k_is); (case z1 => k_is); (case z2 => k_is); (case z3 => k_is); (case z4 => k_is); (case z5 => k_is); (case z6 => k_is); (case z7 => k_is); (case z8 => k_is); (case z9 => k_is); (case z10 => k_is); (case z11 => k_is); (case z12 => k_is); (case z13 => k_is); (case z14 => k_is)
